package perm

import (
	"math"
	"math/rand"
	"slices"
	"testing"

	"garner/api"
)

func of(t *testing.T, l ...int) uint64 {
	t.Helper()
	p, e := Of(l...)
	if e != api.OK || !May(p) {
		t.Fatalf("Of(%v) is %x, %v", l, p, e)
	}
	return p
}

func is(t *testing.T, p uint64, used, free []int) {
	t.Helper()
	if !May(p) || !slices.Equal(Used(p), used) || !slices.Equal(Free(p), free) || Count(p) != len(used) {
		t.Errorf("%x: used %v, free %v; want %v, %v", p, Used(p), Free(p), used, free)
	}
}

func to(from, to int) []int {
	var l []int
	for i := from; i <= to; i++ {
		l = append(l, i)
	}
	return l
}

func TestExamples(t *testing.T) {
	p := First()
	if !May(p) || May(0) || Count(p) != 0 {
		t.Error("May, Count are wrong")
	}
	if _, e := At(p, 0); e != api.ErrArg {
		t.Errorf("At: %v", e)
	}
	q, place, e := Insert(p, 0, 3)
	if place != 0 || e != api.OK {
		t.Errorf("Insert is %d, %v", place, e)
	}
	r, place, e := Insert(q, 0, 3)
	if place != 1 || e != api.OK {
		t.Errorf("Insert is %d, %v", place, e)
	}
	is(t, r, []int{1, 0}, to(2, 14))
	if x, place, e := Insert(r, 3, 3); x != 0 || place != 0 || e != api.ErrArg {
		t.Errorf("Insert is %d, %d, %v", x, place, e)
	}
	s, place, e := Insert(r, 2, 3)
	if place != 2 || e != api.OK {
		t.Errorf("Insert is %d, %v", place, e)
	}
	is(t, s, []int{1, 0, 2}, to(3, 14))
	if x, place, e := Insert(s, 0, 3); x != 0 || place != 0 || e != api.ErrFull {
		t.Errorf("Insert is %d, %d, %v", x, place, e)
	}
	u, place, e := Remove(s, 1)
	if place != 0 || e != api.OK {
		t.Errorf("Remove is %d, %v", place, e)
	}
	is(t, u, []int{1, 2}, append([]int{0}, to(3, 14)...))
	c, cut, e := Cut(s, 1)
	if !slices.Equal(cut, []int{0, 2}) || e != api.OK {
		t.Errorf("Cut is %v, %v", cut, e)
	}
	is(t, c, []int{1}, append([]int{0, 2}, to(3, 14)...))
	if _, e := Of(1, 1); e != api.ErrArg {
		t.Errorf("Of(1, 1): %v", e)
	}
	is(t, of(t, 2, 0), []int{2, 0}, append([]int{1}, to(3, 14)...))
}

func TestMayAndOf(t *testing.T) { // P9.1
	is(t, First(), nil, to(0, 14))
	if First() != 0xedcba98765432100 {
		t.Errorf("First is %x", First())
	}
	all := []int{14, 0, 13, 1, 12, 2, 11, 3, 10, 4, 9, 5, 8, 6, 7}
	is(t, of(t, all...), all, nil)
	for _, l := range [][]int{{15}, {-1}, {0, 1, 0}, {math.MaxInt}, {math.MinInt}, append(to(0, 14), 0), to(0, 15), make([]int, 1000)} {
		if p, e := Of(l...); p != 0 || e != api.ErrArg {
			t.Errorf("Of(%v) is %x, %v", l, p, e)
		}
	}
	for _, p := range []uint64{0, 1, math.MaxUint64, First() | 0xf0, First() ^ 0x10, 0xfdcba98765432100} {
		if May(p) || Count(p) != 0 || Used(p) != nil || Free(p) != nil {
			t.Errorf("%x is taken for one", p)
		}
		for range All(p) {
			t.Errorf("there is something in %x", p)
		}
		_, e1 := At(p, 0)
		_, _, e2 := Insert(p, 0, 3)
		_, _, e3 := Remove(p, 0)
		_, _, e4 := Cut(p, 0)
		if e1 != api.ErrArg || e2 != api.ErrArg || e3 != api.ErrArg || e4 != api.ErrArg {
			t.Errorf("%x: %v, %v, %v, %v", p, e1, e2, e3, e4)
		}
	}
	if !May(First() | 15) {
		t.Error("fifteen that are used are none")
	}
}

func TestLooking(t *testing.T) { // P9.2
	p := of(t, 4, 2, 9)
	for i, want := range []int{4, 2, 9} {
		if n, e := At(p, i); n != want || e != api.OK {
			t.Errorf("At(%d) is %d, %v", i, n, e)
		}
	}
	for _, i := range []int{-1, 3, math.MaxInt, math.MinInt} {
		if n, e := At(p, i); n != 0 || e != api.ErrArg {
			t.Errorf("At(%d) is %d, %v", i, n, e)
		}
	}
	for range 2 {
		var l []int
		for i, place := range All(p) {
			l = append(l, i, place)
		}
		if !slices.Equal(l, []int{0, 4, 1, 2, 2, 9}) {
			t.Errorf("All is %v", l)
		}
	}
	for range All(p) {
		break
	}
}

func TestEdges(t *testing.T) { // P9.3
	p := of(t, 4, 2, 9)
	for _, x := range []struct {
		i, width int
		want     api.Errno
	}{
		{-1, 5, api.ErrArg}, {4, 5, api.ErrArg}, {0, 2, api.ErrArg}, {0, 16, api.ErrArg}, {4, 3, api.ErrArg}, {0, 3, api.ErrFull}, {3, 3, api.ErrFull},
		{math.MinInt, 5, api.ErrArg}, {0, math.MaxInt, api.ErrArg},
	} {
		if q, place, e := Insert(p, x.i, x.width); q != 0 || place != 0 || e != x.want {
			t.Errorf("Insert(%d, %d) is %x, %d, %v", x.i, x.width, q, place, e)
		}
	}
	for _, i := range []int{-1, 3, math.MaxInt, math.MinInt} {
		if q, place, e := Remove(p, i); q != 0 || place != 0 || e != api.ErrArg {
			t.Errorf("Remove(%d) is %x, %d, %v", i, q, place, e)
		}
	}
	for _, n := range []int{-1, 4, math.MaxInt, math.MinInt} {
		if q, l, e := Cut(p, n); q != 0 || l != nil || e != api.ErrArg {
			t.Errorf("Cut(%d) is %x, %v, %v", n, q, l, e)
		}
	}
	if q, l, e := Cut(p, 3); q != p || len(l) != 0 || e != api.OK {
		t.Errorf("Cut(3) is %x, %v, %v", q, l, e)
	}
	full := First()
	for i := range 15 {
		var e api.Errno
		if full, _, e = Insert(full, i, 15); e != api.OK {
			t.Fatalf("Insert %d: %v", i, e)
		}
	}
	is(t, full, to(0, 14), nil)
	if _, _, e := Insert(full, 0, 15); e != api.ErrFull {
		t.Errorf("Insert: %v", e)
	}
	q, place, e := Remove(full, 14)
	if place != 14 || e != api.OK {
		t.Errorf("Remove is %d, %v", place, e)
	}
	is(t, q, to(0, 13), []int{14})
}

// TestLikeLists holds perms against two lists.
func TestLikeLists(t *testing.T) { // P9.3, P9.4
	r := rand.New(rand.NewSource(1))
	for range 200 {
		width := 3 + r.Intn(13)
		p := First()
		var used []int
		free := to(0, 14)
		for range 100 {
			n := len(used)
			switch i := r.Intn(n + 1); r.Intn(8) {
			case 0, 1, 2, 3:
				q, place, e := Insert(p, i, width)
				if n >= width {
					if e != api.ErrFull {
						t.Fatalf("Insert: %v", e)
					}
					continue
				}
				if place != free[0] || e != api.OK {
					t.Fatalf("Insert is %d, %v; want %d", place, e, free[0])
				}
				if back, gone, _ := Remove(q, i); back != p || gone != place {
					t.Fatalf("Remove of what Insert put is %x, not %x", back, p)
				}
				p, used, free = q, slices.Insert(used, i, place), free[1:]
			case 4, 5, 6:
				if i == n {
					continue
				}
				q, place, e := Remove(p, i)
				if place != used[i] || e != api.OK {
					t.Fatalf("Remove is %d, %v; want %d", place, e, used[i])
				}
				p, free, used = q, slices.Concat([]int{place}, free), slices.Delete(used, i, i+1)
			default:
				q, cut, e := Cut(p, i)
				if !slices.Equal(cut, used[i:]) || e != api.OK {
					t.Fatalf("Cut is %v, %v; want %v", cut, e, used[i:])
				}
				p, free, used = q, slices.Concat(used[i:], free), slices.Clone(used[:i])
			}
			is(t, p, used, free)
			for _, place := range used {
				if place >= width {
					t.Fatalf("the place %d of a width %d", place, width)
				}
			}
		}
	}
}
