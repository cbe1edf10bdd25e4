package tasks

import (
	"bytes"
	"math"
	"math/rand"
	"slices"
	"strings"
	"testing"

	"garner/api"
	"garner/cells"
	"garner/disk"
)

func fresh(t *testing.T) *Machine {
	t.Helper()
	a, _ := cells.New(1024)
	d, _ := disk.New(1024)
	m, e := New(a, d)
	if e != api.OK || m == nil {
		t.Fatalf("New: %v", e)
	}
	return m
}

func begin(t *testing.T, m *Machine, f Task, next Next) int {
	t.Helper()
	n, e := m.Begin(f, next)
	if e != api.OK {
		t.Fatalf("Begin: %v", e)
	}
	return n
}

func at(t *testing.T, m *Machine, task int, want api.TaskAt) {
	t.Helper()
	if got, ok := m.At(task); got != want || !ok {
		t.Errorf("At(%d) is %+v, %v; want %+v", task, got, ok, want)
	}
}

func cell(t *testing.T, m *Machine, at, want uint64) {
	t.Helper()
	if w, e := m.Arena().Load(at); w != want || e != api.OK {
		t.Errorf("cell %d has %d, want %d", at, w, want)
	}
}

func addOne(a *Act) any {
	n := a.Load(10)
	a.Store(10, n+1)
	return n
}

func TestExamples(t *testing.T) { // P5.2
	m := fresh(t)
	for range 4 {
		begin(t, m, addOne, nil)
	}
	if n := m.Run(0, 0, 0); n != 3 {
		t.Errorf("Run is %d", n)
	}
	cell(t, m, 10, 1)
	at(t, m, 0, api.TaskAt{Ended: true, Steps: 3, Done: 2, Answer: uint64(0)})
	for range 3 {
		m.Step(1)
	}
	cell(t, m, 10, 2)
	for range 3 {
		m.Step(2)
		m.Step(3)
	}
	cell(t, m, 10, 3)
	at(t, m, 2, api.TaskAt{Ended: true, Steps: 3, Done: 2, Answer: uint64(2)})
	at(t, m, 3, api.TaskAt{Ended: true, Steps: 3, Done: 2, Answer: uint64(2)})
	if n, ok := m.Pick(0); n != 0 || ok {
		t.Errorf("Pick is %d, %v", n, ok)
	}
}

func TestNewAndBegin(t *testing.T) { // P5.1
	a, _ := cells.New(1024)
	d, _ := disk.New(1024)
	for i, x := range []struct {
		a *cells.Arena
		d *disk.Disk
	}{{nil, d}, {a, nil}, {&cells.Arena{}, d}, {a, &disk.Disk{}}, {nil, nil}} {
		if m, e := New(x.a, x.d); m != nil || e != api.ErrArg {
			t.Errorf("%d: %v, %v", i, m, e)
		}
	}
	m, _ := New(a, d)
	if m.Arena() != a || m.Disk() != d {
		t.Error("arena and disk are not kept")
	}
	if n, e := m.Begin(nil, nil); n != 0 || e != api.ErrArg {
		t.Errorf("Begin of none is %d, %v", n, e)
	}
	called := 0
	for i := range api.MaxTasks {
		if n := begin(t, m, func(a *Act) any { called++; return nil }, nil); n != i {
			t.Errorf("Begin is %d, want %d", n, i)
		}
	}
	if called != 0 {
		t.Error("Begin has done something of it")
	}
	if n, e := m.Begin(addOne, nil); n != 0 || e != api.ErrFull {
		t.Errorf("one task more is %d, %v", n, e)
	}
	if _, e := m.Begin(nil, nil); e != api.ErrArg {
		t.Errorf("ErrArg is ahead of ErrFull: %v", e)
	}
	if m.Tasks() != api.MaxTasks {
		t.Errorf("Tasks is %d", m.Tasks())
	}
}

func TestStepAndPick(t *testing.T) { // P5.2, P5.4
	m := fresh(t)
	for range 3 {
		begin(t, m, addOne, nil)
	}
	for _, n := range []int{-1, 3, math.MaxInt} {
		if e := m.Step(n); e != api.ErrArg {
			t.Errorf("Step(%d): %v", n, e)
		}
		if got, ok := m.At(n); got != (api.TaskAt{}) || ok {
			t.Errorf("At(%d) is %+v, %v", n, got, ok)
		}
	}
	at(t, m, 1, api.TaskAt{})
	for want := 1; want <= 3; want++ {
		if n, ok := m.Pick(4); n != 1 || !ok {
			t.Errorf("Pick(4) is %d, %v", n, ok)
		}
		at, _ := m.At(1)
		if at.Steps != want || at.Done != min(want, 2) || at.Ended != (want == 3) {
			t.Errorf("At is %+v behind %d steps", at, want)
		}
	}
	if e := m.Step(1); e != api.ErrState {
		t.Errorf("Step of one at its end: %v", e)
	}
	at(t, m, 1, api.TaskAt{Ended: true, Steps: 3, Done: 2, Answer: uint64(0)})
	if l := m.Going(); !slices.Equal(l, []int{0, 2}) {
		t.Errorf("Going are %v", l)
	}
	for _, x := range []struct{ n, want int }{{1, 2}, {-7, 0}, {math.MinInt, 0}, {2, 0}, {3, 2}} {
		if n, ok := m.Pick(x.n); n != x.want || !ok {
			t.Errorf("Pick(%d) is %d, %v; want %d", x.n, n, ok, x.want)
		}
	}
	if n := m.Run(0, 0, 0, 0, 0, 0, 0); n != 1 {
		t.Errorf("Run is %d", n)
	}
	if n := m.Run(); n != 0 || len(m.Going()) != 0 {
		t.Errorf("Run of nothing is %d; Going %v", n, m.Going())
	}
}

func TestAwait(t *testing.T) { // P5.2, P5.3
	m := fresh(t)
	asked := 0
	begin(t, m, func(a *Act) any {
		w := a.Await(5, func(w uint64) bool { asked++; return w > 2 })
		return w + a.Load(5)
	}, nil)
	m.Run(0, 0, 0)
	at(t, m, 0, api.TaskAt{Steps: 3})
	m.Arena().Store(5, 3)
	m.Run(0)
	at(t, m, 0, api.TaskAt{Steps: 4, Done: 1})
	m.Arena().Store(5, 4)
	m.Run(0, 0)
	at(t, m, 0, api.TaskAt{Ended: true, Steps: 6, Done: 2, Answer: uint64(7)})
	if asked != 4 {
		t.Errorf("the function was asked %d times", asked)
	}
}

func TestAlone(t *testing.T) { // P5.2, P5.5
	m := fresh(t)
	calls := 0
	v, ok := m.Alone(func(a *Act) any {
		calls++
		a.Store(7, 5)
		return a.Add(7, 2)
	})
	if v != uint64(7) || !ok || calls != 1 {
		t.Errorf("Alone is %v, %v in %d calls", v, ok, calls)
	}
	v, ok = m.Alone(func(a *Act) any {
		a.Store(7, 9)
		a.Await(7, func(w uint64) bool { return w == 1 })
		a.Store(7, 10)
		return 1
	})
	if v != nil || ok {
		t.Errorf("Alone is %v, %v", v, ok)
	}
	cell(t, m, 7, 9)
	if v, ok := m.Alone(nil); v != nil || ok {
		t.Errorf("Alone of none is %v, %v", v, ok)
	}
	if v, ok := m.Alone(func(a *Act) any { return nil }); v != nil || !ok {
		t.Errorf("Alone of an empty one is %v, %v", v, ok)
	}
	if m.Tasks() != 0 {
		t.Error("Alone begins no task")
	}
}

func TestSuccessors(t *testing.T) { // P5.1, P5.2
	m := fresh(t)
	var last []any
	work := func(n uint64) Task {
		return func(a *Act) any { return a.Add(20, n) }
	}
	next := func(v any) (Task, bool) {
		last = append(last, v)
		return work(10), len(last) < 3
	}
	begin(t, m, work(1), next)
	m.Run(0, 0)
	at(t, m, 0, api.TaskAt{Steps: 2})
	cell(t, m, 20, 1) // nothing more is done in that step
	m.Run(0)
	at(t, m, 0, api.TaskAt{Steps: 3, Done: 1})
	m.Run(0, 0, 0)
	at(t, m, 0, api.TaskAt{Ended: true, Steps: 6, Done: 1, Answer: uint64(21)})
	if !slices.Equal(last, []any{uint64(1), uint64(11), uint64(21)}) {
		t.Errorf("the successor was told %v", last)
	}
	n := begin(t, m, work(1), func(any) (Task, bool) { return nil, true })
	m.Run(0, 0)
	if at, _ := m.At(n); !at.Ended {
		t.Error("a successor without a function is none")
	}
}

func TestActions(t *testing.T) { // P5.3
	m := fresh(t)
	far := uint64(5000)
	v, ok := m.Alone(func(a *Act) any {
		at, ok := a.Take(3)
		if at != 64 || !ok {
			t.Errorf("Take is %d, %v", at, ok)
		}
		a.Store(at, 5)
		if w, ok := a.Swap(at, 5, 6); w != 5 || !ok {
			t.Errorf("Swap is %d, %v", w, ok)
		}
		if w, ok := a.Swap(at, 5, 7); w != 6 || ok {
			t.Errorf("Swap is %d, %v", w, ok)
		}
		if a.Load(at) != 6 || a.Add(at, 2) != 8 || a.Await(at, func(w uint64) bool { return w == 8 }) != 8 {
			t.Error("Load, Add, Await are wrong")
		}
		if !a.Give(at) || a.Give(at) {
			t.Error("Give is wrong")
		}
		a.Store(far, 1)
		if w, ok := a.Swap(far, 0, 1); w != 0 || ok || a.Load(far) != 0 || a.Add(far, 1) != 0 || a.Give(far) {
			t.Error("an address that is none is one")
		}
		for _, n := range []int{0, -1, 257} {
			if at, ok := a.Take(n); at != 0 || ok {
				t.Errorf("Take(%d) is %d, %v", n, at, ok)
			}
		}
		if e := a.Append("a", []byte("xy")); e != api.OK {
			t.Errorf("Append: %v", e)
		}
		if a.Append("a b", nil) != api.ErrArg || a.Append("a", make([]byte, 2000)) != api.ErrFull || a.Sync("b") != api.ErrNone || a.Sync("a") != api.OK {
			t.Error("Append, Sync are wrong")
		}
		if a.Rename("a", "b") != api.OK || a.Rename("a", "b") != api.ErrNone || !slices.Equal(a.Names(), []string{"b"}) {
			t.Error("Rename, Names are wrong")
		}
		b, e := a.Read("b")
		if _, none := a.Read("a"); string(b) != "xy" || e != api.OK || none != api.ErrNone {
			t.Errorf("Read is %q, %v", b, e)
		}
		if a.Remove("b") != api.OK || a.Remove("b") != api.ErrNone {
			t.Error("Remove is wrong")
		}
		return 1
	})
	if v != 1 || !ok {
		t.Errorf("Alone is %v, %v", v, ok)
	}
	if m.Stray() != 0 {
		t.Errorf("Stray is %d", m.Stray())
	}
}

func TestEachActionIsAStep(t *testing.T) { // P5.3, P5.5
	m := fresh(t)
	acts := []func(a *Act){
		func(a *Act) { a.Load(9999) }, func(a *Act) { a.Store(9999, 1) }, func(a *Act) { a.Swap(9999, 0, 1) }, func(a *Act) { a.Add(9999, 1) },
		func(a *Act) { a.Take(0) }, func(a *Act) { a.Give(1) }, func(a *Act) { a.Push(-1, nil) }, func(a *Act) { a.Pull(16) },
		func(a *Act) { a.Append("", nil) }, func(a *Act) { a.Sync("") }, func(a *Act) { a.Rename("", "") }, func(a *Act) { a.Remove("") },
		func(a *Act) { a.Read("") }, func(a *Act) { a.Names() }, func(a *Act) { a.Await(9999, func(uint64) bool { return true }) },
	}
	begin(t, m, func(a *Act) any {
		for _, act := range acts {
			act(a)
		}
		return "end"
	}, nil)
	for i := range acts {
		at(t, m, 0, api.TaskAt{Steps: i, Done: i})
		m.Step(0)
	}
	m.Step(0)
	at(t, m, 0, api.TaskAt{Ended: true, Steps: len(acts) + 1, Done: len(acts), Answer: "end"})
}

func TestBoxes(t *testing.T) { // P5.3, P5.4
	m := fresh(t)
	src := []byte("ab")
	m.Alone(func(a *Act) any {
		a.Push(15, src)
		a.Push(15, nil)
		a.Push(16, src)
		a.Push(-1, src)
		return nil
	})
	src[0] = 'z'
	if l := m.Box(15); len(l) != 2 || string(l[0]) != "ab" || len(l[1]) != 0 {
		t.Errorf("the box has %q", l)
	}
	m.Box(15)[0][0] = 'y'
	if m.Pushed(15) != 2 || m.Pushed(0) != 0 || m.Pushed(16) != 0 || m.Pushed(-1) != 0 || m.Box(16) != nil || m.Box(-1) != nil {
		t.Error("Pushed or Box is wrong")
	}
	begin(t, m, func(a *Act) any { // what it was answered it may change
		l := a.Pull(15)
		if len(l) != 2 || string(l[0]) != "ab" {
			t.Errorf("Pull is %q", l)
		}
		l[0][0], l[1] = 'x', nil
		if len(a.Pull(15)) != 0 || len(a.Pull(16)) != 0 || len(a.Pull(-1)) != 0 {
			t.Error("an empty box is not")
		}
		a.Append("f", []byte("ab"))
		b, _ := a.Read("f")
		names := a.Names()
		if string(b) != "ab" || names[0] != "f" {
			t.Errorf("%q, %v", b, names)
		}
		b[0], names[0] = 'x', "x"
		a.Load(1)
		return nil
	}, nil)
	for range 9 {
		m.Step(0)
	}
	if at, _ := m.At(0); !at.Ended || len(m.Box(15)) != 0 || m.Pushed(15) != 2 {
		t.Errorf("At is %+v, Pushed %d", at, m.Pushed(15))
	}
}

func TestStray(t *testing.T) { // P5.4
	m := fresh(t)
	m.Alone(func(a *Act) any {
		at, _ := a.Take(2)
		for _, x := range []uint64{0, 63, at, at + 1, 1024, 1 << 60} {
			a.Load(x)
			a.Store(x, 0)
			a.Swap(x, 0, 0)
			a.Add(x, 0)
			a.Await(x, func(uint64) bool { return true })
		}
		return nil
	})
	if m.Stray() != 0 {
		t.Errorf("Stray is %d", m.Stray())
	}
	begin(t, m, func(a *Act) any {
		a.Load(66)
		a.Store(66, 0)
		a.Swap(1023, 0, 0)
		a.Add(1023, 0)
		a.Await(66, func(w uint64) bool { return w == 1 })
		return nil
	}, nil)
	m.Run(0, 0, 0, 0, 0, 0) // the await is done twice, the others once
	if m.Stray() != 6 {
		t.Errorf("Stray is %d", m.Stray())
	}
}

func TestOutsideOfItsStep(t *testing.T) {
	m := fresh(t)
	var old *Act
	begin(t, m, func(a *Act) any {
		if old == nil {
			old = a
		}
		if old != a && (old.Load(5) != 0 || old.Append("x", nil) != api.OK) { // a step's Act in another step
			t.Error("an elder Act answers something")
		}
		a.Load(6)
		return a.Load(6)
	}, nil)
	m.Arena().Store(5, 9)
	m.Step(0)
	for _, a := range []*Act{nil, {}, old} {
		a.Store(5, 1)
		w, ok := a.Swap(5, 9, 1)
		at, taken := a.Take(1)
		a.Push(0, nil)
		if w != 0 || ok || at != 0 || taken || a.Load(5) != 0 || a.Add(5, 1) != 0 || a.Give(5) || a.Pull(0) != nil || a.Names() != nil {
			t.Error("an Act outside of its step answers something")
		}
		if a.Await(5, func(uint64) bool { t.Error("asked"); return false }) != 0 {
			t.Error("Await answers something")
		}
		want := api.ErrNil
		if a == old {
			want = api.OK
		}
		b, e := a.Read("x")
		if b != nil || e != want || a.Append("x", nil) != want || a.Sync("x") != want || a.Rename("x", "y") != want || a.Remove("x") != want {
			t.Errorf("an Act outside of its step answers %v", e)
		}
	}
	m.Run(0, 0)
	at(t, m, 0, api.TaskAt{Ended: true, Steps: 3, Done: 2, Answer: uint64(0)})
	cell(t, m, 5, 9)
	if len(m.Box(0)) != 0 || len(m.Disk().Names()) != 0 {
		t.Error("an Act outside of its step does something")
	}
}

func TestLeaving(t *testing.T) { // P5.2: who recovers what he must not goes no further for it
	m := fresh(t)
	begin(t, m, func(a *Act) any {
		func() {
			defer func() { recover() }()
			a.Add(5, 1)
		}()
		a.Add(5, 1)
		return "end"
	}, nil)
	m.Step(0)
	cell(t, m, 5, 1)
	m.Run(0, 0)
	cell(t, m, 5, 2)
	at(t, m, 0, api.TaskAt{Ended: true, Steps: 3, Done: 2, Answer: "end"})
	n := begin(t, m, func(a *Act) any { panic("own") }, nil)
	m.Step(n)
	at(t, m, n, api.TaskAt{Ended: true, Steps: 1})
	if v, ok := m.Alone(func(a *Act) any { panic("own") }); v != nil || ok {
		t.Errorf("Alone is %v, %v", v, ok)
	}
	other := fresh(t)
	begin(t, m, func(a *Act) any { // a machine in a machine's task
		v, _ := other.Alone(func(b *Act) any { return a.Load(5) + b.Add(6, 1) })
		return v
	}, nil)
	m.Run(0, 0)
	at(t, m, n+1, api.TaskAt{Ended: true, Steps: 2, Done: 1, Answer: uint64(3)})
}

func TestNil(t *testing.T) {
	for _, m := range []*Machine{nil, {}} {
		if _, e := m.Begin(nil, nil); e != api.ErrNil {
			t.Errorf("Begin: %v", e)
		}
		if e := m.Step(-1); e != api.ErrNil {
			t.Errorf("Step: %v", e)
		}
		n, ok := m.Pick(0)
		v, done := m.Alone(func(a *Act) any { return 1 })
		_, is := m.At(0)
		if n != 0 || ok || v != nil || done || is || m.Run(0) != 0 || m.Tasks() != 0 || m.Going() != nil || m.Arena() != nil || m.Disk() != nil {
			t.Error("something of nil is not zero")
		}
		if m.Box(0) != nil || m.Pushed(0) != 0 || m.Stray() != 0 {
			t.Error("something of nil is not zero")
		}
	}
}

func TestStepsDoWhatAloneDoes(t *testing.T) { // P5.5
	for seed := range int64(200) {
		work := func(a *Act) any {
			r := rand.New(rand.NewSource(seed))
			var said strings.Builder
			add := func(l ...uint64) {
				for _, w := range l {
					said.WriteByte(byte(w))
				}
			}
			for range 30 {
				at, w := uint64(r.Intn(70)), uint64(r.Intn(3))
				switch r.Intn(9) {
				case 0:
					add(a.Load(at))
				case 1:
					a.Store(at, w)
				case 2:
					was, _ := a.Swap(at, w, w+1)
					add(was)
				case 3:
					add(a.Add(at, w))
				case 4:
					p, _ := a.Take(r.Intn(5))
					add(p)
				case 5:
					a.Give(at)
				case 6:
					a.Push(r.Intn(2), []byte{byte(w)})
				case 7:
					for _, b := range a.Pull(r.Intn(2)) {
						said.Write(b)
					}
				default:
					a.Append("f", []byte{byte(w)})
					b, _ := a.Read("f")
					said.Write(b)
				}
			}
			return said.String()
		}
		one, two := fresh(t), fresh(t)
		want, _ := one.Alone(work)
		begin(t, two, work, nil)
		for two.Step(0) == api.OK {
		}
		got, _ := two.At(0)
		if got.Answer != want || !cells.Same(one.Arena(), two.Arena()) || !disk.Same(one.Disk(), two.Disk()) || one.Stray() != two.Stray() {
			t.Fatalf("seed %d: %q by steps, %q alone", seed, got.Answer, want)
		}
		if !bytes.Equal(slices.Concat(one.Box(0)...), slices.Concat(two.Box(0)...)) {
			t.Fatalf("seed %d: the boxes are unlike", seed)
		}
	}
}
