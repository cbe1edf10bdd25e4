package cells

import (
	"math"
	"math/rand"
	"testing"

	"garner/api"
)

func fresh(t *testing.T, n int) *Arena {
	t.Helper()
	a, e := New(n)
	if e != api.OK || a == nil {
		t.Fatalf("New(%d): %v", n, e)
	}
	return a
}

func take(t *testing.T, a *Arena, n int, at uint64, want api.Errno) {
	t.Helper()
	if got, e := a.Take(n); got != at || e != want {
		t.Errorf("Take(%d) is %d, %v; want %d, %v", n, got, e, at, want)
	}
}

func load(t *testing.T, a *Arena, at, word uint64) {
	t.Helper()
	if got, e := a.Load(at); got != word || e != api.OK {
		t.Errorf("Load(%d) is %d, %v; want %d", at, got, e, word)
	}
}

func give(t *testing.T, a *Arena, at uint64, n int, want api.Errno) {
	t.Helper()
	if got, e := a.Give(at); got != n || e != want {
		t.Errorf("Give(%d) is %d, %v; want %d, %v", at, got, e, n, want)
	}
}

func swap(t *testing.T, a *Arena, at, was, is, had uint64, done bool, want api.Errno) {
	t.Helper()
	if w, ok, e := a.Swap(at, was, is); w != had || ok != done || e != want {
		t.Errorf("Swap(%d, %d, %d) is %d, %v, %v; want %d, %v, %v", at, was, is, w, ok, e, had, done, want)
	}
}

func TestExamples(t *testing.T) { // P4.1, P4.2
	a := fresh(t, 1024)
	take(t, a, 3, 64, api.OK)
	take(t, a, 2, 67, api.OK)
	if a.Free() != 955 {
		t.Errorf("Free is %d", a.Free())
	}
	if e := a.Store(64, 5); e != api.OK {
		t.Errorf("Store: %v", e)
	}
	swap(t, a, 64, 5, 9, 5, true, api.OK)
	swap(t, a, 64, 5, 7, 9, false, api.OK)
	if n, e := a.Add(64, math.MaxUint64); n != 8 || e != api.OK {
		t.Errorf("Add is %d, %v", n, e)
	}
	give(t, a, 64, 3, api.OK)
	load(t, a, 64, api.Poison)
	give(t, a, 64, 0, api.ErrNone)
	take(t, a, 4, 69, api.OK)
	take(t, a, 3, 64, api.OK)
	load(t, a, 64, 0)
	if _, e := a.Load(1024); e != api.ErrArg {
		t.Errorf("Load(1024): %v", e)
	}
	take(t, a, 0, 0, api.ErrArg)
	take(t, a, 257, 0, api.ErrArg)
}

func TestCells(t *testing.T) { // P4.1
	for _, n := range []int{math.MinInt, 0, 1023, 65537, math.MaxInt} {
		if a, e := New(n); a != nil || e != api.ErrArg {
			t.Errorf("New(%d): %v, %v", n, a, e)
		}
	}
	if a := fresh(t, 65536); a.Size() != 65536 || a.Free() != 65536-64 {
		t.Errorf("Size %d, Free %d", a.Size(), a.Free())
	}
	a := fresh(t, 1024)
	for _, at := range []uint64{0, 63, 64, 1023} { // whoever has taken it
		load(t, a, at, 0)
		if e := a.Store(at, 7); e != api.OK {
			t.Errorf("Store(%d): %v", at, e)
		}
		load(t, a, at, 7)
		swap(t, a, at, 7, 8, 7, true, api.OK)
		swap(t, a, at, 7, 9, 8, false, api.OK)
		if n, e := a.Add(at, 3); n != 11 || e != api.OK {
			t.Errorf("Add is %d, %v", n, e)
		}
		load(t, a, at, 11)
	}
	for _, at := range []uint64{1024, 1 << 63, math.MaxUint64} {
		if w, e := a.Load(at); w != 0 || e != api.ErrArg {
			t.Errorf("Load(%d) is %d, %v", at, w, e)
		}
		if e := a.Store(at, 0); e != api.ErrArg {
			t.Errorf("Store(%d): %v", at, e)
		}
		swap(t, a, at, 0, 0, 0, false, api.ErrArg)
		if w, e := a.Add(at, 1); w != 0 || e != api.ErrArg {
			t.Errorf("Add(%d) is %d, %v", at, w, e)
		}
		give(t, a, at, 0, api.ErrNone)
		if _, ok := a.Piece(at); ok || a.Taken(at) {
			t.Errorf("%d is taken", at)
		}
	}
}

func TestPieces(t *testing.T) { // P4.2, P4.3
	a := fresh(t, 1024)
	for i := range 3 {
		take(t, a, 256, uint64(64+256*i), api.OK)
	}
	take(t, a, 193, 0, api.ErrFull)
	take(t, a, 192, 832, api.OK)
	take(t, a, 1, 0, api.ErrFull)
	if a.Free() != 0 {
		t.Errorf("Free is %d", a.Free())
	}
	a.Store(1023, 9)
	give(t, a, 833, 0, api.ErrNone)
	give(t, a, 832, 192, api.OK)
	load(t, a, 1023, api.Poison)
	a.Store(1023, 9)
	load(t, a, 1023, 9)
	take(t, a, 192, 832, api.OK)
	load(t, a, 1023, 0)
	give(t, a, 64, 256, api.OK)
	if n, ok := a.Piece(320); n != 256 || !ok {
		t.Errorf("Piece(320) is %d, %v", n, ok)
	}
	for at, want := range map[uint64]bool{0: false, 63: false, 64: false, 319: false, 320: true, 321: true, 1023: true} {
		if a.Taken(at) != want {
			t.Errorf("Taken(%d) is not %v", at, want)
		}
	}
	for _, at := range []uint64{64, 321, 0} {
		if n, ok := a.Piece(at); n != 0 || ok {
			t.Errorf("Piece(%d) is %d, %v", at, n, ok)
		}
	}
	all := a.All()
	a.Give(320) // it goes over them as they are when it is called
	for range 2 {
		var l []uint64
		for at, n := range all {
			l = append(l, at, uint64(n))
		}
		if len(l) != 6 || l[0] != 320 || l[1] != 256 || l[2] != 576 || l[4] != 832 || l[5] != 192 {
			t.Errorf("All is %v", l)
		}
	}
	for range all {
		break
	}
}

func TestCopyAndSame(t *testing.T) { // P4.3
	a := fresh(t, 1024)
	a.Take(5)
	c := a.Copy()
	if !Same(a, c) {
		t.Error("a copy is another one")
	}
	c.Store(70, 1)
	if Same(a, c) || Same(c, a) {
		t.Error("a word is not seen")
	}
	load(t, a, 70, 0)
	c = a.Copy()
	c.Take(1)
	if Same(a, c) || Same(c, a) {
		t.Error("a piece is not seen")
	}
	b, d := fresh(t, 1024), fresh(t, 1024) // the same cells taken, other pieces
	b.Take(2)
	b.Take(1)
	d.Take(1)
	d.Take(2)
	if Same(b, d) || Same(fresh(t, 1024), fresh(t, 1025)) {
		t.Error("other pieces, another size are not seen")
	}
	if !Same(nil, nil) || !Same(&Arena{}, nil) || Same(a, nil) || Same(&Arena{}, a) {
		t.Error("Same of nil is wrong")
	}
}

func TestNil(t *testing.T) {
	for _, a := range []*Arena{nil, {}} {
		if _, e := a.Load(0); e != api.ErrNil {
			t.Errorf("Load: %v", e)
		}
		if e := a.Store(0, 0); e != api.ErrNil {
			t.Errorf("Store: %v", e)
		}
		swap(t, a, 0, 0, 0, 0, false, api.ErrNil)
		if _, e := a.Add(0, 0); e != api.ErrNil {
			t.Errorf("Add: %v", e)
		}
		take(t, a, 0, 0, api.ErrNil)
		give(t, a, 0, 0, api.ErrNil)
		if n, ok := a.Piece(0); n != 0 || ok || a.Taken(0) || a.Size() != 0 || a.Free() != 0 || a.Copy() != nil {
			t.Error("something of nil is not zero")
		}
		for range a.All() {
			t.Error("there is something in nil")
		}
	}
}

func TestPiecesNeverOverlap(t *testing.T) { // P4.4, P0.4
	r := rand.New(rand.NewSource(1))
	a := fresh(t, 1024)
	owner, ever := make([]int, 1024), make([]bool, 1024)
	mine := map[uint64]int{}
	for turn := 1; turn < 4000; turn++ {
		if r.Intn(2) == 0 {
			n := 1 + r.Intn(100)
			at, e := a.Take(n)
			lowest, run := uint64(0), 0
			for i := 64; i < 1024 && lowest == 0; i++ {
				if run++; owner[i] > 0 {
					run = 0
				} else if run == n {
					lowest = uint64(i + 1 - n)
				}
			}
			if at != lowest || (e == api.OK) != (lowest > 0) {
				t.Fatalf("Take(%d) is %d, %v; the lowest is %d", n, at, e, lowest)
			}
			for i := range n {
				if e == api.OK {
					load(t, a, at+uint64(i), 0)
					owner[at+uint64(i)], ever[at+uint64(i)] = turn, true
					mine[at] = n
				}
			}
		} else {
			for at, n := range a.All() {
				if r.Intn(4) == 0 {
					give(t, a, at, mine[at], api.OK)
					delete(mine, at)
					for i := range n {
						owner[at+uint64(i)] = 0
					}
					break
				}
			}
		}
		free := 0
		for i := 64; i < 1024; i++ {
			if a.Taken(uint64(i)) != (owner[i] > 0) {
				t.Fatalf("Taken(%d) is wrong", i)
			}
			if owner[i] == 0 {
				free++
				want := uint64(0)
				if ever[i] {
					want = api.Poison
				}
				load(t, a, uint64(i), want)
			}
		}
		if a.Free() != free {
			t.Fatalf("Free is %d, want %d", a.Free(), free)
		}
	}
}
