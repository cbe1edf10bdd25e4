package record

import (
	"fmt"
	"math/rand"
	"slices"
	"testing"

	"garner/api"
	"garner/cells"
	"garner/disk"
	"garner/row"
	"garner/tasks"
	"garner/tid"
)

func machine(t *testing.T) *tasks.Machine {
	t.Helper()
	a, _ := cells.New(4096)
	d, _ := disk.New(1024)
	m, e := tasks.New(a, d)
	if e != api.OK {
		t.Fatal(e)
	}
	return m
}

func alone(t *testing.T, m *tasks.Machine, f func(a *tasks.Act)) {
	t.Helper()
	if _, ok := m.Alone(func(a *tasks.Act) any { f(a); return nil }); !ok {
		t.Error("it is not done at once")
	}
	if m.Stray() != 0 {
		t.Errorf("Stray is %d", m.Stray())
	}
}

func w(epoch, number int64) uint64 {
	word, _ := tid.Word(epoch, number)
	return word
}

func of(s string) api.Row { return api.Row{[]byte(s)} }

func is(t *testing.T, what string, word uint64, r api.Row, want uint64, field string) {
	t.Helper()
	if word != want || field == "" && r != nil || field != "" && !row.Same(r, of(field)) {
		t.Errorf("%s is %d, %q; want %d, %q", what, word, r, want, field)
	}
}

func lost(t *testing.T, what string, l []uint64, version bool, want []uint64, made bool) {
	t.Helper()
	if !slices.Equal(l, want) || version != made {
		t.Errorf("%s is %v, %v; want %v, %v", what, l, version, want, made)
	}
}

const absent = api.WordAbsent

func TestExamples(t *testing.T) { // P14.1 to P14.5
	m := machine(t)
	alone(t, m, func(a *tasks.Act) {
		r, e := New(a)
		if r != 64 || e != api.OK {
			t.Errorf("New is %d, %v", r, e)
		}
		word, none := Read(a, r)
		is(t, "Read", word, none, absent, "")
		s, _ := a.Take(3)
		x, e := Lay(a, of("b"))
		if x != s+3 || e != api.OK {
			t.Errorf("Lay is %d, %v", x, e)
		}
		if Lock(a, r) != absent {
			t.Error("Lock is wrong")
		}
		l, ok := Install(a, r, absent, w(1, 1), x, s)
		lost(t, "Install", l, ok, nil, false)
		word, b := Read(a, r)
		is(t, "Read", word, b, w(1, 1), "b")
		y, _ := Lay(a, of("c"))
		l, ok = Install(a, r, Lock(a, r), w(1, 2), y, s)
		lost(t, "Install", l, ok, []uint64{x}, false)
		word, c := Read(a, r)
		is(t, "Read", word, c, w(1, 2), "c")
		z, _ := Lay(a, of("d"))
		l, ok = Install(a, r, Lock(a, r), w(3, 3), z, s)
		lost(t, "Install", l, ok, nil, true)
		word, c = At(a, r, 2)
		is(t, "At(2)", word, c, w(1, 2), "c")
		word, d := At(a, r, 3)
		is(t, "At(3)", word, d, w(3, 3), "d")
		word, none = At(a, r, 0)
		is(t, "At(0)", word, none, 0, "")
		lost(t, "Trim(2)", Trim(a, r, 2), false, nil, false)
		lost(t, "Trim(3)", Trim(a, r, 3), false, []uint64{s, y}, false)
		word, none = At(a, r, 2)
		is(t, "At(2)", word, none, 0, "")
		word, d = Read(a, r)
		is(t, "Read", word, d, w(3, 3), "d")
	})
}

func TestNewAndLay(t *testing.T) { // P14.1
	m := machine(t)
	alone(t, m, func(a *tasks.Act) {
		r, _ := New(a)
		if n, _ := m.Arena().Piece(r); n != 3 || a.Load(r) != absent || a.Load(r+1) != 0 || a.Load(r+2) != 0 {
			t.Errorf("a new record has %d cells", n)
		}
		long := api.Row{make([]byte, 24), make([]byte, 24), make([]byte, 24)}
		for _, x := range []api.Row{of(""), of("abc"), {[]byte("a"), nil, []byte("b")}, long} {
			at, e := Lay(a, x)
			words, _ := row.Words(x)
			if n, _ := m.Arena().Piece(at); n != len(words) || e != api.OK || !row.Same(Row(a, at), x) {
				t.Errorf("Lay of %q is %d cells, %v: %q", x, n, e, Row(a, at))
			}
			if a.Load(at) != words[0] {
				t.Errorf("the first word is %d", a.Load(at))
			}
		}
		for _, x := range []api.Row{nil, {make([]byte, 25)}, {nil, nil, nil, nil}} {
			if at, e := Lay(a, x); at != 0 || e != api.ErrArg {
				t.Errorf("Lay of %q is %d, %v", x, at, e)
			}
		}
		if Row(a, 0) != nil {
			t.Error("at 0 there is a row")
		}
	})
	for ok := true; ok; {
		_, e := m.Arena().Take(2)
		ok = e == api.OK
	}
	alone(t, m, func(a *tasks.Act) {
		r, e := New(a)
		x, bad := Lay(a, of("a long one"))
		_, arg := Lay(a, nil)
		if r != 0 || e != api.ErrFull || x != 0 || bad != api.ErrFull || arg != api.ErrArg {
			t.Errorf("without cells: %d, %v; %d, %v; %v", r, e, x, bad, arg)
		}
	})
}

// held begins a task at a record that is locked, and lets it go on behind it.
func held(t *testing.T, m *tasks.Machine, rec uint64, f tasks.Task) any {
	t.Helper()
	was, _ := m.Arena().Load(rec)
	m.Arena().Store(rec, was|1)
	n, _ := m.Begin(f, nil)
	for range 4 {
		m.Step(n)
	}
	if at, _ := m.At(n); at.Done != 0 {
		t.Error("it does not wait")
	}
	m.Arena().Store(rec, was)
	for m.Step(n) == api.OK {
	}
	at, _ := m.At(n)
	return at.Answer
}

func TestWaiting(t *testing.T) { // P14.2, P14.4, P14.5
	m := machine(t)
	var rec uint64
	alone(t, m, func(a *tasks.Act) {
		rec, _ = New(a)
		x, _ := Lay(a, of("x"))
		Install(a, rec, Lock(a, rec), w(2, 1), x, 0)
	})
	for i, f := range []tasks.Task{
		func(a *tasks.Act) any { word, r := Read(a, rec); return fmt.Sprint(word, r) },
		func(a *tasks.Act) any { word, r := At(a, rec, 2); return fmt.Sprint(word, r) },
	} {
		if got := held(t, m, rec, f); got != fmt.Sprint(w(2, 1), of("x")) {
			t.Errorf("%d: %v", i, got)
		}
	}
	if got := held(t, m, rec, func(a *tasks.Act) any { return len(Trim(a, rec, 2)) }); got != 0 {
		t.Errorf("Trim is %v", got)
	}
	if got := held(t, m, rec, func(a *tasks.Act) any { return Lock(a, rec) }); got != w(2, 1) {
		t.Errorf("Lock is %v", got)
	}
	if word, _ := m.Arena().Load(rec); word != w(2, 1)|1 {
		t.Errorf("the word is %d", word)
	}
	alone(t, m, func(a *tasks.Act) {
		Unlock(a, rec, w(5, 5)|7)
		if a.Load(rec) != w(5, 5)|6 {
			t.Errorf("the word is %d", a.Load(rec))
		}
		word, r := Read(a, rec)
		is(t, "Read of a dead one", word, r, w(5, 5)|6, "")
		Unlock(a, rec, w(5, 5)|2)
		word, r = Read(a, rec)
		is(t, "Read of a dead one", word, r, w(5, 5)|2, "")
		word, r = At(a, rec, 9)
		is(t, "At of a dead one", word, r, w(5, 5)|2, "")
	})
}

func TestLockAnew(t *testing.T) { // P14.2: another one gets it between
	m := machine(t)
	var rec uint64
	alone(t, m, func(a *tasks.Act) { rec, _ = New(a) })
	n, _ := m.Begin(func(a *tasks.Act) any { return Lock(a, rec) }, nil)
	m.Step(n)
	m.Arena().Store(rec, w(1, 1)|1)
	m.Step(n)
	m.Step(n)
	m.Arena().Store(rec, w(1, 1))
	for m.Step(n) == api.OK {
	}
	if at, _ := m.At(n); at.Answer != w(1, 1) {
		t.Errorf("Lock is %v", at.Answer)
	}
}

func TestVersions(t *testing.T) { // P14.3 to P14.5
	m := machine(t)
	alone(t, m, func(a *tasks.Act) {
		rec, _ := New(a)
		put := func(word uint64, s string, want []uint64, made bool) uint64 {
			at := uint64(0)
			if s != "" {
				at, _ = Lay(a, of(s))
			}
			spare, _ := a.Take(3)
			l, ok := Install(a, rec, Lock(a, rec), word, at, spare)
			lost(t, fmt.Sprintf("Install of %q", s), l, ok, want, made)
			if !ok {
				a.Give(spare)
				return at
			}
			return spare
		}
		put(w(1, 1), "a", nil, false) // a new one's word is of the epoch 0
		v1 := put(w(2, 2), "b", nil, true)
		v2 := put(w(4, 3)|absent, "", nil, true)
		put(w(4, 4)|absent, "", nil, false) // of the same epoch, and there is no row
		v4 := put(w(6, 5), "c", nil, true)
		if word := a.Load(v2); word != w(2, 2) {
			t.Errorf("the version has %d", word)
		}
		if word := a.Load(v4); word != w(4, 4)|absent || a.Load(v4+1) != 0 || a.Load(v4+2) != v2 || a.Load(v2+2) != v1 || a.Load(v1+2) != 0 {
			t.Errorf("the version has %d", word)
		}
		for e, x := range []struct {
			word uint64
			s    string
		}{{0, ""}, {w(1, 1), "a"}, {w(2, 2), "b"}, {w(2, 2), "b"}, {w(4, 4) | absent, ""}, {w(4, 4) | absent, ""}, {w(6, 5), "c"}, {w(6, 5), "c"}} {
			word, r := At(a, rec, int64(e))
			is(t, fmt.Sprintf("At(%d)", e), word, r, x.word, x.s)
		}
		lost(t, "Trim(0)", Trim(a, rec, 0), false, nil, false)
		lost(t, "Trim(1)", Trim(a, rec, 1), false, nil, false)
		row1 := a.Load(v1 + 1)
		lost(t, "Trim(3)", Trim(a, rec, 3), false, []uint64{v1, row1}, false)
		lost(t, "Trim(3)", Trim(a, rec, 3), false, nil, false)
		row2 := a.Load(v2 + 1)
		lost(t, "Trim(9)", Trim(a, rec, 9), false, []uint64{v4, v2, row2}, false)
		word, r := At(a, rec, 5)
		is(t, "At(5)", word, r, 0, "")
		word, r = Read(a, rec)
		is(t, "Read", word, r, w(6, 5), "c")
	})
}

func TestNobody(t *testing.T) {
	if _, e := New(nil); e != api.ErrNil {
		t.Errorf("New: %v", e)
	}
	if _, e := Lay(nil, nil); e != api.ErrNil {
		t.Errorf("Lay: %v", e)
	}
	for _, a := range []*tasks.Act{nil, {}} {
		w1, r1 := Read(a, 64)
		w2, r2 := At(a, 64, 1)
		l, ok := Install(a, 64, 0, 0, 0, 0)
		if w1 != 0 || r1 != nil || w2 != 0 || r2 != nil || l != nil || ok || Lock(a, 64) != 0 || Trim(a, 64, 1) != nil || Row(a, 64) != nil {
			t.Error("nobody answers something")
		}
		Unlock(a, 64, 1)
	}
	alone(t, machine(t), func(a *tasks.Act) { // no cells are no record, and nothing hangs
		Lock(a, 1<<40)
		Read(a, 1<<40)
		if Trim(a, 1<<40, 5) != nil {
			t.Error("what is no record has something")
		}
		a.Store(20, 88)
		if Row(a, 20) != nil {
			t.Error("what is no row is one")
		}
	})
}

// TestWhateverSteps lets one write, another one trim what nobody needs, and others read.
func TestWhateverSteps(t *testing.T) { // P14.6, P0.3, P0.4
	for seed := range int64(150) {
		r := rand.New(rand.NewSource(seed))
		m := machine(t)
		var rec uint64
		alone(t, m, func(a *tasks.Act) { rec, _ = New(a) })
		epochs := make([]int64, 20)
		last := map[int64]string{0: ""} // of each epoch: what stood at its end
		for i := range epochs {
			epochs[i] = 1 + int64(i/(1+int(seed%4)))
			last[epochs[i]] = fmt.Sprint("row ", i)
			if i%5 == 4 {
				last[epochs[i]] = ""
			}
		}
		over := int64(0) // up to which epoch all is written
		m.Begin(func(a *tasks.Act) any {
			for i, e := range epochs {
				over = max(over, e-1)
				at, bits := uint64(0), uint64(absent)
				if i%5 != 4 {
					at, _ = Lay(a, of(fmt.Sprint("row ", i)))
					bits = 0
				}
				spare, _ := a.Take(3)
				Install(a, rec, Lock(a, rec), w(e, int64(i+1))|bits, at, spare)
			}
			return nil
		}, nil)
		trimmed, gave := int64(0), map[uint64]bool{}
		m.Begin(func(a *tasks.Act) any {
			for i := range 6 {
				a.Load(0)
				e := int64(3 * i)
				a.Await(0, func(uint64) bool { return over >= e })
				trimmed = max(trimmed, e)
				for _, p := range Trim(a, rec, e) {
					gave[p] = true
				}
			}
			return nil
		}, nil)
		for n := range 2 {
			read := 0
			m.Begin(func(a *tasks.Act) any {
				for i := range 25 {
					a.Load(0)
					word, got := Read(a, rec)
					if read <= 2*i {
						read = 2*i + 1
						k := tid.Number(word) - 1
						if want := fmt.Sprint("row ", k); k >= 0 && (tid.Epoch(word) != epochs[k] || (k%5 == 4) != (got == nil) || got != nil && string(got[0]) != want) {
							t.Fatalf("seed %d: %d was read with %q", seed, word, got)
						}
					}
					e := int64((i*7 + n) % 20)
					sure := e <= over && e >= trimmed
					word, got = At(a, rec, e)
					if read <= 2*i+1 {
						read = 2*i + 2
						want := ""
						for x := e; x > 0 && want == ""; x-- {
							if s, ok := last[x]; ok {
								want = s
								break
							}
						}
						if sure && e >= trimmed && (want == "") != (got == nil) || sure && e >= trimmed && got != nil && string(got[0]) != want || word != 0 && tid.Epoch(word) > e {
							t.Fatalf("seed %d: at %d there was %d, %q; want %q", seed, e, word, got, want)
						}
					}
				}
				return nil
			}, nil)
		}
		for range 3000 {
			m.Pick(r.Intn(8) / (1 + r.Intn(4)))
		}
		if m.Stray() != 0 {
			t.Fatalf("seed %d: Stray is %d", seed, m.Stray())
		}
		for p := range gave {
			if _, ok := m.Arena().Piece(p); !ok {
				t.Fatalf("seed %d: %d was cut off, and is no piece", seed, p)
			}
		}
	}
}
