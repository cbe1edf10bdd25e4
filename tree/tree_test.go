package tree

import (
	"bytes"
	"fmt"
	"maps"
	"math"
	"math/rand"
	"slices"
	"strings"
	"testing"

	"garner/api"
	"garner/cells"
	"garner/disk"
	"garner/tasks"
)

const cell = 16

func machine(t *testing.T, size int) *tasks.Machine {
	t.Helper()
	a, _ := cells.New(size)
	d, _ := disk.New(1024)
	m, e := tasks.New(a, d)
	if e != api.OK {
		t.Fatal(e)
	}
	return m
}

// alone does what can be done at once.
func alone(t *testing.T, m *tasks.Machine, f func(a *tasks.Act)) {
	t.Helper()
	if _, ok := m.Alone(func(a *tasks.Act) any { f(a); return nil }); !ok {
		t.Fatal("it is not done at once")
	}
}

func plant(t *testing.T, m *tasks.Machine, width int) {
	t.Helper()
	alone(t, m, func(a *tasks.Act) {
		if e := Make(a, cell, width); e != api.OK {
			t.Fatalf("Make: %v", e)
		}
	})
}

type pair struct {
	key string
	rec uint64
}

func scanned(a *tasks.Act, width int, from string) (all []pair, saw []api.Seen) {
	Scan(a, cell, width, []byte(from), func(s api.Seen) { saw = append(saw, s) }, func(key []byte, rec uint64) bool {
		all = append(all, pair{string(key), rec})
		return true
	})
	return
}

func sorted(m map[string]uint64, from string) []pair {
	var l []pair
	for _, k := range slices.Sorted(maps.Keys(m)) {
		if k >= from {
			l = append(l, pair{k, m[k]})
		}
	}
	return l
}

func sound(t *testing.T, m *tasks.Machine, width, want int) {
	t.Helper()
	alone(t, m, func(a *tasks.Act) {
		if n, ok := Check(a, cell, width); n != want || !ok {
			t.Fatalf("Check is %d, %v; want %d", n, ok, want)
		}
	})
}

func TestExamples(t *testing.T) { // P12.1 to P12.5
	m := machine(t, 4096)
	plant(t, m, 3)
	alone(t, m, func(a *tasks.Act) {
		put := func(key string, rec uint64) api.Laid {
			l, e := Insert(a, cell, 3, []byte(key), rec)
			if e != api.OK {
				t.Errorf("Insert of %s: %v", key, e)
			}
			return l
		}
		if l := put("b", 100); l.Record != 100 || l.There || len(l.Changed) != 1 {
			t.Errorf("Insert is %+v", l)
		}
		put("a", 101)
		if r, s := Get(a, cell, 3, []byte("a")); r != 101 || s.Node != 64 || !Seen(a, s) {
			t.Errorf("Get is %d, %+v", r, s)
		}
		if r, s := Get(a, cell, 3, []byte("c")); r != 0 || s.Node != 64 || !Seen(a, s) {
			t.Errorf("Get is %d, %+v", r, s)
		}
		if l := put("a", 102); l.Record != 101 || !l.There || l.Changed != nil {
			t.Errorf("Insert is %+v", l)
		}
		put("abcdefghij", 103)
		if l := put("abcdefghkl", 104); len(l.Changed) != 2 || l.Changed[1].Was != 0 || len(l.Lost) != 1 {
			t.Errorf("Insert is %+v", l)
		}
		want := []pair{{"a", 101}, {"abcdefghij", 103}, {"abcdefghkl", 104}, {"b", 100}}
		if l, _ := scanned(a, 3, "a"); !slices.Equal(l, want) {
			t.Errorf("Scan is %v", l)
		}
		for i, key := range []string{"c", "d"} {
			if l := put(key, uint64(105+i)); len(l.Changed) != 2 || l.Changed[0].Was == 0 || l.Changed[1].Was != 0 {
				t.Errorf("Insert of %s is %+v", key, l)
			}
		}
		if l, ok := Remove(a, cell, 3, []byte("a"), 101); len(l) != 0 || !ok {
			t.Errorf("Remove is %v, %v", l, ok)
		}
		if l, ok := Remove(a, cell, 3, []byte("a"), 101); l != nil || ok {
			t.Errorf("Remove is %v, %v", l, ok)
		}
	})
	sound(t, m, 3, 5)
}

func TestWhatMayNotBe(t *testing.T) { // P12.1 to P12.4
	m := machine(t, 1024)
	alone(t, m, func(a *tasks.Act) {
		if r, s := Get(a, cell, 3, []byte("a")); r != 0 || s != (api.Seen{}) { // no tree yet
			t.Errorf("Get is %d, %+v", r, s)
		}
		if l, e := Insert(a, cell, 3, []byte("a"), 1); l.Record != 0 || e != api.ErrArg {
			t.Errorf("Insert is %+v, %v", l, e)
		}
		if l, ok := Remove(a, cell, 3, []byte("a"), 1); l != nil || ok {
			t.Errorf("Remove is %v, %v", l, ok)
		}
		if l, saw := scanned(a, 3, ""); l != nil || saw != nil {
			t.Errorf("Scan is %v, %v", l, saw)
		}
		if n, ok := Check(a, cell, 3); n != 0 || ok {
			t.Errorf("Check is %d, %v", n, ok)
		}
		if Seen(a, api.Seen{}) {
			t.Error("nothing is seen")
		}
	})
	plant(t, m, 3)
	before := m.Arena().Copy()
	alone(t, m, func(a *tasks.Act) {
		for _, key := range [][]byte{nil, {}, make([]byte, 97), make([]byte, 5000)} {
			if r, s := Get(a, cell, 3, key); r != 0 || s != (api.Seen{}) {
				t.Errorf("Get is %d, %+v", r, s)
			}
			if l, e := Insert(a, cell, 3, key, 5); l.Record != 0 || e != api.ErrArg {
				t.Errorf("Insert is %+v, %v", l, e)
			}
			if l, ok := Remove(a, cell, 3, key, 5); l != nil || ok {
				t.Errorf("Remove is %v, %v", l, ok)
			}
		}
		if l, e := Insert(a, cell, 3, []byte("a"), 0); l.Record != 0 || e != api.ErrArg {
			t.Errorf("Insert of the record 0 is %+v, %v", l, e)
		}
		for _, w := range []int{2, 16, -1, 0, math.MaxInt, math.MinInt} {
			if Make(a, 17, w) != api.ErrArg {
				t.Errorf("Make of the width %d", w)
			}
			_, e := Insert(a, cell, w, []byte("a"), 1)
			r, _ := Get(a, cell, w, []byte("a"))
			_, ok := Remove(a, cell, w, []byte("a"), 1)
			_, is := Check(a, cell, w)
			if l, _ := scanned(a, w, ""); e != api.ErrArg || r != 0 || ok || is || l != nil {
				t.Errorf("the width %d is taken", w)
			}
		}
	})
	if !cells.Same(before, m.Arena()) {
		t.Error("what is refused changes something")
	}
	for _, a := range []*tasks.Act{nil, {}} {
		want := api.ErrArg
		if a == nil {
			want = api.ErrNil
		}
		r, s := Get(a, cell, 3, []byte("a"))
		_, e := Insert(a, cell, 3, []byte("a"), 1)
		_, ok := Remove(a, cell, 3, []byte("a"), 1)
		_, is := Check(a, cell, 3)
		if l, _ := scanned(a, 3, ""); r != 0 || s != (api.Seen{}) || e != want || ok || is || l != nil || Seen(a, s) {
			t.Error("nobody answers something")
		}
	}
	if e := Make(nil, cell, 3); e != api.ErrNil {
		t.Errorf("Make: %v", e)
	}
}

// keys that share slices, end at their ends, and have noughts in them.
func someKey(r *rand.Rand) string {
	const parts = "\x00\x00ab\xff"
	n := 1 + r.Intn(4)
	if r.Intn(3) == 0 {
		n = 1 + r.Intn(34)
	}
	if r.Intn(60) == 0 {
		n = 96
	}
	var b strings.Builder
	for i := range n {
		c := parts[r.Intn(len(parts))]
		if n > 4 && i%8 < 7 && r.Intn(8) > 0 {
			c = 'x'
		}
		b.WriteByte(c)
	}
	return b.String()
}

// like holds a tree against a map, in all that can be asked.
func like(t *testing.T, a *tasks.Act, width int, is map[string]uint64, r *rand.Rand) {
	t.Helper()
	all := sorted(is, "")
	got, saw := scanned(a, width, "")
	if !slices.Equal(got, all) {
		t.Fatalf("Scan is %v, want %v", got, all)
	}
	for _, s := range saw {
		if !Seen(a, s) {
			t.Fatalf("%+v is not seen", s)
		}
	}
	for range 5 {
		from := someKey(r)
		switch r.Intn(4) {
		case 0:
			from += strings.Repeat("z", 200)
		case 1:
			if len(all) > 0 {
				from = all[r.Intn(len(all))].key
			}
		}
		if got, _ := scanned(a, width, from); !slices.Equal(got, sorted(is, from)) {
			t.Fatalf("Scan from %q is %v, want %v", from, got, sorted(is, from))
		}
		most := r.Intn(4)
		n := 0
		Scan(a, cell, width, []byte(from), func(api.Seen) {}, func([]byte, uint64) bool { n++; return n <= most })
		if want := min(len(sorted(is, from)), most+1); n != want {
			t.Fatalf("a scan that is left told %d, want %d", n, want)
		}
	}
}

func TestLikeAMap(t *testing.T) { // P12.1 to P12.5
	t.Parallel()
	for seed := range int64(60) {
		r := rand.New(rand.NewSource(seed))
		width := 3 + r.Intn(5)
		if seed%5 == 0 {
			width = 15
		}
		m := machine(t, 30000)
		plant(t, m, width)
		is := map[string]uint64{}
		alone(t, m, func(a *tasks.Act) {
			for turn := range 400 {
				key := someKey(r)
				if r.Intn(3) == 0 && len(is) > 0 {
					key = sorted(is, "")[r.Intn(len(is))].key
				}
				was := is[key]
				if got, s := Get(a, cell, width, []byte(key)); got != was || !Seen(a, s) {
					t.Fatalf("seed %d: Get of %q is %d, %+v; want %d", seed, key, got, s, was)
				}
				if r.Intn(4) > 0 {
					rec := uint64(1000 + turn)
					l, e := Insert(a, cell, width, []byte(key), rec)
					want := rec
					if was != 0 {
						want = was
					}
					if e != api.OK || l.Record != want || l.There != (was != 0) || l.There && len(l.Changed)+len(l.Lost) > 0 {
						t.Fatalf("seed %d: Insert of %q is %+v, %v", seed, key, l, e)
					}
					for _, tail := range l.Lost {
						if !a.Give(tail) {
							t.Fatalf("seed %d: %d is lost, which is no piece", seed, tail)
						}
					}
					is[key] = want
				} else {
					if l, ok := Remove(a, cell, width, []byte(key), was+1); l != nil || ok {
						t.Fatalf("seed %d: Remove of another record is %v, %v", seed, l, ok)
					}
					l, ok := Remove(a, cell, width, []byte(key), was)
					if ok != (was != 0) {
						t.Fatalf("seed %d: Remove of %q is %v, %v", seed, key, l, ok)
					}
					for _, tail := range l {
						if !a.Give(tail) {
							t.Fatalf("seed %d: %d is lost, which is no piece", seed, tail)
						}
					}
					delete(is, key)
				}
				if turn%20 == 0 {
					like(t, a, width, is, r)
					if n, ok := Check(a, cell, width); n != len(is) || !ok {
						t.Fatalf("seed %d: Check is %d, %v; want %d", seed, n, ok, len(is))
					}
				}
			}
		})
		sound(t, m, width, len(is))
		if m.Stray() != 0 {
			t.Fatalf("seed %d: Stray is %d", seed, m.Stray())
		}
	}
}

// TestChanged: what Insert tells as changed are all borders that have other versions, and the new ones.
func TestChanged(t *testing.T) { // P12.2
	t.Parallel()
	for seed := range int64(40) {
		r := rand.New(rand.NewSource(seed))
		m := machine(t, 30000)
		plant(t, m, 3)
		alone(t, m, func(a *tasks.Act) {
			for turn := range 150 {
				key := someKey(r)
				ahead := map[uint64]uint64{}
				_, saw := scanned(a, 3, "")
				for _, s := range saw {
					ahead[s.Node] = s.Version
				}
				l, _ := Insert(a, cell, 3, []byte(key), uint64(1+turn))
				for _, c := range l.Changed {
					was, old := ahead[c.Node]
					if was != c.Was || old != (c.Was != 0) || c.Was == c.Is {
						t.Fatalf("seed %d: %+v is told; %d was %d", seed, c, c.Node, was)
					}
					ahead[c.Node] = c.Is
				}
				_, saw = scanned(a, 3, "")
				if len(saw) != len(ahead) {
					t.Fatalf("seed %d: there are %d borders, told were %d", seed, len(saw), len(ahead))
				}
				for _, s := range saw {
					if ahead[s.Node] != s.Version {
						t.Fatalf("seed %d: %+v was told as %d", seed, s, ahead[s.Node])
					}
				}
				if got, s := Get(a, cell, 3, []byte(key)); got != l.Record || !slices.Contains(saw, s) {
					t.Fatalf("seed %d: %q is %d, %+v", seed, key, got, s)
				}
			}
		})
	}
}

func TestWithoutCells(t *testing.T) { // P12.1, P12.2
	t.Parallel()
	for seed := range int64(60) {
		r := rand.New(rand.NewSource(seed))
		m := machine(t, 1024)
		plant(t, m, 3)
		is := map[string]uint64{}
		alone(t, m, func(a *tasks.Act) {
			for fails := 0; fails < 60; {
				key := someKey(r)
				free, was := m.Arena().Free(), is[key]
				_, saw := scanned(a, 3, "")
				l, e := Insert(a, cell, 3, []byte(key), uint64(len(is)+1))
				if e == api.OK {
					is[key] = l.Record
					for _, tail := range l.Lost {
						a.Give(tail)
					}
					continue
				}
				fails++
				_, still := scanned(a, 3, "")
				if e != api.ErrFull || was != 0 || l.Record != 0 || l.Changed != nil || m.Arena().Free() != free || !slices.Equal(saw, still) {
					t.Fatalf("seed %d: Insert is %+v, %v", seed, l, e)
				}
			}
			like(t, a, 3, is, r)
			for key, rec := range is {
				if got, _ := Get(a, cell, 3, []byte(key)); got != rec {
					t.Fatalf("seed %d: Get of %q is %d", seed, key, got)
				}
			}
		})
		sound(t, m, 3, len(is))
		if m.Stray() != 0 {
			t.Fatalf("Stray is %d", m.Stray())
		}
	}
	m := machine(t, 1024)
	for ok := true; ok; {
		_, e := m.Arena().Take(15)
		ok = e == api.OK
	}
	alone(t, m, func(a *tasks.Act) {
		if e := Make(a, cell, 3); e != api.ErrFull || a.Load(cell) != 0 {
			t.Errorf("Make: %v", e)
		}
	})
}

// TestCheckSees: Check tells what is not as it should be.
func TestCheckSees(t *testing.T) { // P12.5
	m := machine(t, 4096)
	plant(t, m, 3)
	alone(t, m, func(a *tasks.Act) {
		for i := range 12 {
			Insert(a, cell, 3, []byte{byte('a' + i)}, uint64(100+i))
		}
		Insert(a, cell, 3, []byte("abcdefghij"), 7)
		Insert(a, cell, 3, []byte("abcdefghkl"), 8)
	})
	sound(t, m, 3, 14)
	root, _ := m.Arena().Load(cell)
	left := root
	for w, _ := m.Arena().Load(left); w&api.NodeBorder == 0; w, _ = m.Arena().Load(left) {
		left, _ = m.Arena().Load(left + keysAt + 6)
	}
	next, _ := m.Arena().Load(left + nextAt)
	for i, x := range []struct{ at, word uint64 }{
		{left, 32 | 1}, {left, 32 | 2}, {left, 32 | 4}, {next, 33}, {left + borderParent, 0}, {next + fromAt, math.MaxUint64},
		{left + placesAt, 'z' << 56}, {root + keysAt, math.MaxUint64}, {root, 0}, {root + countAt, 9}, {left + nextAt, left}, {left + placesAt + 6, 0}, {cell, 0}, {cell, 5000},
	} {
		was, _ := m.Arena().Load(x.at)
		m.Arena().Store(x.at, x.word)
		alone(t, m, func(a *tasks.Act) {
			if n, ok := Check(a, cell, 3); ok {
				t.Errorf("%d: Check is %d, true", i, n)
			}
		})
		m.Arena().Store(x.at, was)
	}
	sound(t, m, 3, 14)
}

func TestTold(t *testing.T) { // P12.4: each border is told ahead of what stands in it
	m := machine(t, 8192)
	plant(t, m, 3)
	alone(t, m, func(a *tasks.Act) {
		for i := range 20 {
			Insert(a, cell, 3, []byte(fmt.Sprintf("abcdefgh%02d", i)), uint64(100+i))
		}
		told := map[uint64]bool{}
		Scan(a, cell, 3, nil, func(s api.Seen) { told[s.Node] = true }, func(key []byte, rec uint64) bool {
			_, s := Get(a, cell, 3, key)
			if !told[s.Node] {
				t.Errorf("%s was told ahead of its border", key)
			}
			key[0] = 'z' // it is the caller's
			return true
		})
		if l, _ := scanned(a, 3, ""); len(l) != 20 || l[0].key != "abcdefgh00" {
			t.Errorf("Scan is %v", l)
		}
		if n, ok := Check(a, cell, 3); n != 20 || !ok {
			t.Errorf("Check is %d, %v", n, ok)
		}
		from := []byte("abcdefgh07")
		if l, _ := scanned(a, 3, string(from)); len(l) != 13 || !bytes.Equal([]byte(l[0].key), from) {
			t.Errorf("Scan is %v", l)
		}
	})
}
