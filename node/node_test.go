package node

import (
	"bytes"
	"fmt"
	"math/rand"
	"slices"
	"testing"

	"garner/api"
	"garner/cells"
	"garner/disk"
	"garner/perm"
	"garner/slice"
	"garner/tasks"
	"garner/version"
)

const width = 3

func machine(t *testing.T) *tasks.Machine {
	t.Helper()
	a, _ := cells.New(1024)
	d, _ := disk.New(1024)
	m, e := tasks.New(a, d)
	if e != api.OK {
		t.Fatal(e)
	}
	return m
}

func alone(t *testing.T, m *tasks.Machine, f func(a *tasks.Act)) {
	t.Helper()
	if _, ok := m.Alone(func(a *tasks.Act) any { f(a); return nil }); !ok {
		t.Error("it is not done at once")
	}
	if m.Stray() != 0 {
		t.Errorf("Stray is %d", m.Stray())
	}
}

func key(s string) api.Slice {
	k, _ := slice.Of([]byte(s), 0)
	return k
}

func place(s string, value uint64) api.Place {
	return api.Place{Slice: key(s), Value: value, Tail: value + 1, Slot: 77}
}

func said(l []api.Place) string {
	s := ""
	for _, p := range l {
		b, _ := slice.Bytes(p.Slice)
		s += fmt.Sprintf("%s=%d,%d@%d ", b, p.Value, p.Tail, p.Slot)
	}
	return s
}

func TestExamples(t *testing.T) { // P11.1 to P11.4
	alone(t, machine(t), func(a *tasks.Act) {
		n, e := Border(a, width, true)
		if n != 64 || e != api.OK || Stable(a, n) != 48 || len(Places(a, n, width)) != 0 {
			t.Errorf("Border is %d, %v; %v", n, e, Places(a, n, width))
		}
		if Lock(a, n) != 48 {
			t.Error("Lock is wrong")
		}
		Mark(a, n, 2)
		for i, x := range []struct {
			at   int
			key  string
			want bool
		}{{0, "b", true}, {0, "a", true}, {2, "c", true}, {3, "d", false}} {
			if Put(a, n, width, x.at, place(x.key, uint64(i))) != x.want {
				t.Errorf("Put of %s is not %v", x.key, x.want)
			}
		}
		if v := Unlock(a, n); v != 48+256 || Version(a, n) != v {
			t.Errorf("Unlock is %d", v)
		}
		if s := said(Places(a, n, width)); s != "a=1,2@1 b=0,1@0 c=2,3@2 " {
			t.Errorf("Places are %s", s)
		}
		if p, i, ok := Find(a, n, width, key("b")); said([]api.Place{p}) != "b=0,1@0 " || i != 1 || !ok {
			t.Errorf("Find is %+v, %d, %v", p, i, ok)
		}
		if p, i, ok := Find(a, n, width, key("bb")); p != (api.Place{}) || i != 2 || ok {
			t.Errorf("Find is %+v, %d, %v", p, i, ok)
		}
		Lock(a, n)
		Mark(a, n, 2)
		Take(a, n, width, 1)
		Unlock(a, n)
		if s := said(Places(a, n, width)); s != "a=1,2@1 c=2,3@2 " {
			t.Errorf("Places are %s", s)
		}
	})
}

func TestPieces(t *testing.T) { // P11.1
	m := machine(t)
	alone(t, m, func(a *tasks.Act) {
		for _, w := range []int{3, 15} {
			b, _ := Border(a, w, false)
			i, _ := Inner(a, w, true)
			j, _ := Inner(a, w, false)
			if size, _ := m.Arena().Piece(b); size != 6+4*w || Version(a, b) != 32 || a.Load(b+1) != perm.First() {
				t.Errorf("a border has %d cells, %d, %x", size, Version(a, b), a.Load(b+1))
			}
			if size, _ := m.Arena().Piece(i); size != 5+3*w || Version(a, i) != 16 || Version(a, j) != 0 || a.Load(i+1) != 0 {
				t.Errorf("an inner node has %d cells, %d, %d", size, Version(a, i), Version(a, j))
			}
		}
	})
	for ok := true; ok; {
		_, e := m.Arena().Take(17)
		ok = e == api.OK
	}
	alone(t, m, func(a *tasks.Act) {
		b, e := Border(a, width, true)
		i, bad := Inner(a, 5, true)
		if b != 0 || e != api.ErrFull || i != 0 || bad != api.ErrFull {
			t.Errorf("without cells: %d, %v; %d, %v", b, e, i, bad)
		}
	})
}

func TestTails(t *testing.T) { // P11.1
	m := machine(t)
	for _, n := range []int{1, 7, 8, 9, 16, 88, 300, 2040} {
		b := make([]byte, n)
		for i := range b {
			b[i] = byte(i*7 + 1)
		}
		alone(t, m, func(a *tasks.Act) {
			tail, e := Tail(a, b)
			if size, _ := m.Arena().Piece(tail); e != api.OK || size != 1+(n+7)/8 || a.Load(tail) != uint64(n) {
				t.Fatalf("Tail of %d bytes is %d cells, %v", n, size, e)
			}
			if w := a.Load(tail + 1); byte(w>>56) != b[0] || n == 1 && w != uint64(b[0])<<56 {
				t.Errorf("the first word is %x", w)
			}
			if !bytes.Equal(Rest(a, tail), b) {
				t.Errorf("Rest of %d bytes is % x", n, Rest(a, tail))
			}
			a.Give(tail)
		})
	}
	alone(t, m, func(a *tasks.Act) {
		if tail, e := Tail(a, nil); tail != 0 || e != api.OK || len(Rest(a, 0)) != 0 {
			t.Errorf("Tail of none is %d, %v", tail, e)
		}
		if tail, e := Tail(a, make([]byte, 2041)); tail != 0 || e != api.ErrFull {
			t.Errorf("Tail of more than a piece is %d, %v", tail, e)
		}
	})
}

func TestWaiting(t *testing.T) { // P11.2
	m := machine(t)
	var n uint64
	alone(t, m, func(a *tasks.Act) { n, _ = Border(a, width, true) })
	wait := func(f func(a *tasks.Act) any, held, free uint64) {
		t.Helper()
		task, _ := m.Begin(f, nil)
		m.Arena().Store(n, held)
		for range 3 {
			m.Step(task)
		}
		if at, _ := m.At(task); at.Done != 0 {
			t.Errorf("at %d it does not wait", held)
		}
		m.Arena().Store(n, free)
		for m.Step(task) == api.OK {
		}
		if at, _ := m.At(task); at.Answer != free {
			t.Errorf("it answers %v, not %d", at.Answer, free)
		}
	}
	wait(func(a *tasks.Act) any { return Stable(a, n) }, 48|1|2, 48|1)
	wait(func(a *tasks.Act) any { return Stable(a, n) }, 48|1|4, 48)
	wait(func(a *tasks.Act) any { return Lock(a, n) }, 48|1, 48+512)
	if w, _ := m.Arena().Load(n); w != 49+512 {
		t.Errorf("the locked one has %d", w)
	}
	task, _ := m.Begin(func(a *tasks.Act) any { return Lock(a, n) }, nil) // another one gets it between
	m.Arena().Store(n, 48)
	m.Step(task)
	m.Arena().Store(n, 49)
	m.Step(task)
	m.Step(task)
	m.Arena().Store(n, 48+256)
	for m.Step(task) == api.OK {
	}
	if at, _ := m.At(task); at.Answer != uint64(48+256) {
		t.Errorf("Lock is %v", at.Answer)
	}
	alone(t, m, func(a *tasks.Act) {
		Mark(a, n, 6)
		if v := Unlock(a, n); v != 48+256+1<<24 || Version(a, n) != v {
			t.Errorf("Unlock is %d", v)
		}
		if v := Unlock(a, n); v != 48+256+1<<24 {
			t.Errorf("Unlock of what is not locked is %d", v)
		}
	})
}

func TestFind(t *testing.T) { // P11.3
	for w := api.MinWidth; w <= api.MaxWidth; w++ {
		alone(t, machine(t), func(a *tasks.Act) {
			n, _ := Border(a, w, true)
			inner, _ := Inner(a, w, true)
			a.Store(inner+1, uint64(w))
			a.Store(inner+4+2*uint64(w), 1000)
			all := []api.Slice{{}, {Len: 1}, {Len: 9}, {Word: 1, Len: 8}, {Word: 1, Len: 9}, {Word: 1 << 63, Len: 1}, {Word: 1 << 63, Len: 9}}
			for i := 7; i < 31; i++ {
				all = append(all, api.Slice{Word: 1<<63 + uint64(i)<<8, Len: 7 + i%3})
			}
			for i := range w { // each other one is there
				k := all[2*i+1]
				Put(a, n, w, i, api.Place{Slice: k, Value: uint64(i), Tail: 5})
				a.Store(inner+4+uint64(i), k.Word)
				a.Store(inner+4+uint64(w+i), uint64(k.Len))
				a.Store(inner+4+uint64(2*w+i+1), 1000+uint64(i)+1)
			}
			for i, k := range all[:2*w+1] {
				p, at, ok := Find(a, n, w, k)
				want := api.Place{}
				if i%2 == 1 {
					want = api.Place{Slice: k, Value: uint64(i / 2), Tail: 5, Slot: i / 2}
				}
				if p != want || at != i/2 || ok != (i%2 == 1) {
					t.Errorf("width %d, key %d: %+v, %d, %v", w, i, p, at, ok)
				}
				if c := Child(a, inner, w, k); c != 1000+uint64(i+1)/2 {
					t.Errorf("width %d, key %d: the child %d", w, i, c)
				}
			}
		})
	}
	alone(t, machine(t), func(a *tasks.Act) {
		inner, _ := Inner(a, width, true)
		a.Store(inner+10, 9)
		if Child(a, inner, width, key("a")) != 9 {
			t.Error("without keys there is one child")
		}
		n, _ := Border(a, width, true)
		if _, at, ok := Find(a, n, width, key("a")); at != 0 || ok {
			t.Error("something is found in an empty border")
		}
	})
}

func TestPutAndTake(t *testing.T) { // P11.4
	m := machine(t)
	var n uint64
	alone(t, m, func(a *tasks.Act) {
		n, _ = Border(a, width, true)
		Lock(a, n)
		Put(a, n, width, 0, place("a", 1))
		if Put(a, n, width, 2, place("b", 2)) || Put(a, n, width, -1, place("b", 2)) {
			t.Error("a place is put where none may be")
		}
		Take(a, n, width, 1)
		Take(a, n, width, -1)
		if s := said(Places(a, n, width)); s != "a=1,2@0 " {
			t.Errorf("Places are %s", s)
		}
	})
	task, _ := m.Begin(func(a *tasks.Act) any { return Put(a, n, width, 0, place("A", 9)) }, nil)
	for {
		var l []api.Place
		m.Alone(func(a *tasks.Act) any { l = Places(a, n, width); return nil })
		at, _ := m.At(task)
		if (len(l) == 2) != at.Ended && at.Done < 6 {
			t.Errorf("behind %d actions there are %d places", at.Done, len(l))
		}
		if at.Done == 6 && said(l) != "A=9,10@1 a=1,2@0 " {
			t.Errorf("Places are %s", said(l))
		}
		if m.Step(task) != api.OK {
			break
		}
	}
}

func TestNobody(t *testing.T) {
	if _, e := Border(nil, width, true); e != api.ErrNil {
		t.Errorf("Border: %v", e)
	}
	if _, e := Inner(nil, width, true); e != api.ErrNil {
		t.Errorf("Inner: %v", e)
	}
	if _, e := Tail(nil, nil); e != api.ErrNil {
		t.Errorf("Tail: %v", e)
	}
	for _, a := range []*tasks.Act{nil, {}} {
		p, at, ok := Find(a, 64, width, key("a"))
		if Stable(a, 64) != 0 || Lock(a, 64) != 0 || Unlock(a, 64) != 0 || Version(a, 64) != 0 || Places(a, 64, width) != nil || p != (api.Place{}) || at != 0 || ok ||
			Child(a, 64, width, key("a")) != 0 || Put(a, 64, width, 0, place("a", 1)) || Rest(a, 64) != nil {
			t.Error("nobody answers something")
		}
		Mark(a, 64, 2)
		Take(a, 64, width, 0)
	}
	alone(t, machine(t), func(a *tasks.Act) { // no cells are no node, and nothing hangs
		far := uint64(1 << 40)
		Lock(a, far)
		Unlock(a, far)
		if Places(a, far, width) != nil || Child(a, far, -5, key("a")) != 0 || Rest(a, far) != nil {
			t.Error("what is no node has something")
		}
		a.Store(20, 1<<63)
		if Rest(a, 20) != nil {
			t.Error("what is no tail has something")
		}
	})
}

// TestReadings: what was read between two like versions is what was there at one moment.
func TestReadings(t *testing.T) { // P11.5
	for seed := range int64(120) {
		r := rand.New(rand.NewSource(seed))
		m := machine(t)
		var n uint64
		alone(t, m, func(a *tasks.Act) { n, _ = Border(a, width, true) })
		for w := range 2 {
			own := r.Int63()
			m.Begin(func(a *tasks.Act) any {
				r := rand.New(rand.NewSource(own))
				for range 5 {
					Lock(a, n)
					Mark(a, n, api.NodeInserting)
					p := place(string(rune('a'+r.Intn(5))), uint64(10*w+r.Intn(9)))
					if _, at, ok := Find(a, n, width, p.Slice); ok {
						Take(a, n, width, at)
					} else {
						Put(a, n, width, at, p)
					}
					Unlock(a, n)
				}
				return nil
			}, nil)
		}
		read := ""
		m.Begin(func(a *tasks.Act) any {
			for range 8 {
				read = ""
				v := Stable(a, n)
				s := said(Places(a, n, width))
				if version.Same(v, Version(a, n)) {
					read = "!" + s
				}
			}
			return nil
		}, nil)
		var were []string
		for range 600 {
			m.Pick(r.Intn(3))
			if w, _ := m.Arena().Load(n); version.Still(w) {
				m.Alone(func(a *tasks.Act) any { were = append(were, "!"+said(Places(a, n, width))); return nil })
			}
			if read != "" && !slices.Contains(were, read) {
				t.Fatalf("seed %d: %s was read, which never was there", seed, read)
			}
		}
	}
}
