package epoch

import (
	"math"
	"math/rand"
	"testing"

	"garner/api"
	"garner/cells"
	"garner/disk"
	"garner/tasks"
	"garner/tid"
)

func machine(t *testing.T) *tasks.Machine {
	t.Helper()
	a, _ := cells.New(1024)
	d, _ := disk.New(1024)
	m, e := tasks.New(a, d)
	if e != api.OK {
		t.Fatal(e)
	}
	return m
}

// alone does what can be done at once.
func alone(t *testing.T, m *tasks.Machine, f func(a *tasks.Act)) {
	t.Helper()
	if _, ok := m.Alone(func(a *tasks.Act) any { f(a); return nil }); !ok {
		t.Error("it is not done at once")
	}
}

// steps is how many actions a function has, done alone by steps.
func steps(m *tasks.Machine, f func(a *tasks.Act)) int {
	n, _ := m.Begin(func(a *tasks.Act) any { f(a); return nil }, nil)
	for m.Step(n) == api.OK {
	}
	at, _ := m.At(n)
	return at.Done
}

func is(t *testing.T, what string, got, want int64) {
	t.Helper()
	if got != want {
		t.Errorf("%s is %d, want %d", what, got, want)
	}
}

func advance(t *testing.T, a *tasks.Act, workers int, want int64, done bool) {
	t.Helper()
	if e, ok := Advance(a, workers); e != want || ok != done {
		t.Errorf("Advance is %d, %v; want %d, %v", e, ok, want, done)
	}
}

func cell(t *testing.T, m *tasks.Machine, at, want uint64) {
	t.Helper()
	if w, _ := m.Arena().Load(at); w != want {
		t.Errorf("cell %d has %d, want %d", at, w, want)
	}
}

func TestExamples(t *testing.T) {
	alone(t, machine(t), func(a *tasks.Act) {
		Start(a, 1)
		is(t, "Now", Now(a), 1)
		is(t, "Enter", Enter(a, 0), 1)
		advance(t, a, 2, 2, true)
		advance(t, a, 2, 2, false)
		is(t, "Done(0, 1)", Done(a, 0, 1), 0)
		is(t, "Done(1)", Done(a, 1), 1)
		Leave(a, 0)
		is(t, "Done(0)", Done(a, 0), 1)
		advance(t, a, 2, 3, true)
		is(t, "Settle", Settle(a, 2), 2)
		is(t, "Pin", Pin(a, 1), 2)
		advance(t, a, 2, 4, true)
		is(t, "Settle", Settle(a, 2), 3)
		is(t, "Needed", Needed(a, 2), 2)
	})
}

func TestStartAndEnter(t *testing.T) { // P6.1
	m := machine(t)
	alone(t, m, func(a *tasks.Act) {
		Start(a, 7)
		a.Add(api.CellNumbers, 3*api.WordStep)
		is(t, "Now", Now(a), 7)
		is(t, "Enter", Enter(a, 3), 7)
		for _, e := range []int64{-1, 1 << 24, math.MaxInt64} {
			Start(a, e)
			is(t, "Now", Now(a), 7)
		}
		for _, w := range []int{-1, 4, math.MaxInt, math.MinInt} {
			is(t, "Enter of none", Enter(a, w), 0)
			Leave(a, w)
		}
	})
	w, _ := tid.Word(7, 3)
	cell(t, m, api.CellNumbers, w)
	cell(t, m, api.CellWorker+3, 7)
	cell(t, m, api.CellWorker+4, 0)
	cell(t, m, api.CellWorker-1, w)
	alone(t, m, func(a *tasks.Act) { Leave(a, 3) })
	cell(t, m, api.CellWorker+3, 0)
	if n := steps(m, func(a *tasks.Act) { Enter(a, 0) }); n != 3 {
		t.Errorf("Enter has %d actions", n)
	}
	if n := steps(m, func(a *tasks.Act) { Enter(a, 4); Leave(a, -1); Pin(a, 5); Unpin(a, 5); Start(a, -1) }); n != 0 {
		t.Errorf("what is none has %d actions", n)
	}
}

func TestEnterAnew(t *testing.T) { // P6.1: the epoch goes on between
	m := machine(t)
	m.Arena().Store(api.CellNumbers, 1<<34)
	n, _ := m.Begin(func(a *tasks.Act) any { return Enter(a, 1) }, nil)
	for e := uint64(2); e < 5; e++ {
		m.Step(n)
		m.Arena().Store(api.CellNumbers, e<<34)
		m.Step(n)
	}
	for m.Step(n) == api.OK {
	}
	at, _ := m.At(n)
	if at.Answer != int64(4) {
		t.Errorf("Enter is %v", at.Answer)
	}
	cell(t, m, api.CellWorker+1, 4)
}

func TestAdvance(t *testing.T) { // P6.2
	m := machine(t)
	alone(t, m, func(a *tasks.Act) {
		Start(a, 5)
		a.Add(api.CellNumbers, 9*api.WordStep)
		Enter(a, 2)
		advance(t, a, 4, 6, true)
		advance(t, a, 4, 6, false)
		advance(t, a, 2, 7, true) // it asks just the first two
		advance(t, a, -1, 8, true)
		advance(t, a, 99, 8, false)
		Leave(a, 2)
		advance(t, a, 99, 9, true)
	})
	w, _ := tid.Word(9, 9)
	cell(t, m, api.CellNumbers, w)
	alone(t, m, func(a *tasks.Act) {
		Start(a, api.MaxEpoch-1)
		advance(t, a, 4, api.MaxEpoch, true)
		advance(t, a, 4, api.MaxEpoch, false)
	})
	if n := steps(m, func(a *tasks.Act) { Advance(a, 3) }); n != 4 {
		t.Errorf("Advance that may not has %d actions", n)
	}
}

func TestDoneAndSettle(t *testing.T) { // P6.3
	alone(t, machine(t), func(a *tasks.Act) {
		Start(a, 4)
		Enter(a, 1)
		advance(t, a, 4, 5, true)
		Enter(a, 3)
		is(t, "Done", Done(a), 4)
		is(t, "Done", Done(a, 0, 2), 4)
		is(t, "Done", Done(a, 3), 4)
		is(t, "Done", Done(a, 3, 1), 3)
		is(t, "Done", Done(a, -1, 4, 99), 4)
		is(t, "Settle", Settle(a, 1), 4)
		is(t, "Settle", Settle(a, 4), 4) // it never falls
		is(t, "what Snapshots has", int64(a.Load(api.CellSnapshots)), 4)
		a.Store(api.CellSnapshots, 1)
		is(t, "Settle", Settle(a, 99), 3)
		is(t, "what Snapshots has", int64(a.Load(api.CellSnapshots)), 3)
	})
}

func TestPins(t *testing.T) { // P6.4
	m := machine(t)
	alone(t, m, func(a *tasks.Act) {
		Start(a, 9)
		is(t, "Pin", Pin(a, 0), 0)
		a.Store(api.CellSnapshots, 6)
		is(t, "Pin", Pin(a, 1), 6)
		a.Store(api.CellSnapshots, 7)
		is(t, "Pin", Pin(a, 4), 7)
		a.Store(api.CellSnapshots, 8)
		is(t, "Needed", Needed(a, 2), 0)
		Unpin(a, 0)
		is(t, "Needed", Needed(a, 1), 7)
		is(t, "Needed", Needed(a, 2), 6)
		is(t, "Needed", Needed(a, 99), 6)
		Unpin(a, 1)
		is(t, "Needed", Needed(a, 4), 7)
		Unpin(a, 4)
		is(t, "Needed", Needed(a, 4), 8)
		is(t, "Pin of none", Pin(a, 5), 0)
		is(t, "Pin of none", Pin(a, -1), 0)
	})
	for w := uint64(0); w < 5; w++ {
		cell(t, m, api.CellPin+w, 0)
	}
}

func TestPinAnew(t *testing.T) { // P6.4
	m := machine(t)
	n, _ := m.Begin(func(a *tasks.Act) any { return Pin(a, 2) }, nil)
	for e := uint64(1); e < 4; e++ {
		m.Step(n)
		m.Arena().Store(api.CellSnapshots, e)
		m.Step(n)
	}
	for m.Step(n) == api.OK {
	}
	if at, _ := m.At(n); at.Answer != int64(3) {
		t.Errorf("Pin is %v", at.Answer)
	}
	cell(t, m, api.CellPin+2, 4)
}

func TestPassed(t *testing.T) { // P6.4
	passed := func(a *tasks.Act, workers int, e int64, want bool) {
		t.Helper()
		if Passed(a, workers, e) != want {
			t.Errorf("Passed(%d, %d) is not %v", workers, e, want)
		}
	}
	alone(t, machine(t), func(a *tasks.Act) {
		Start(a, 5)
		passed(a, 2, 5, false)
		passed(a, 2, 4, true)
		Enter(a, 1)
		advance(t, a, 2, 6, true)
		passed(a, 2, 5, false)
		passed(a, 1, 5, true)
		passed(a, 99, 5, false)
		passed(a, 2, 4, true)
		Leave(a, 1)
		passed(a, 2, 5, true)
		for _, place := range []int{0, 1, 4} {
			a.Store(api.CellSnapshots, 4)
			Pin(a, place)
			passed(a, 2, 4, false)
			passed(a, 2, 3, true)
			Unpin(a, place)
		}
		a.Store(api.CellSnapshots, 4)
		Pin(a, 3)
		passed(a, 2, 4, true)
		passed(a, 4, 4, false)
	})
}

// entry is a worker's stay in an epoch, and the number that it took there.
type entry struct {
	epoch int64
	taken uint64
}

// TestWhateverSteps lets workers enter, take numbers and leave, while epochs go on.
func TestWhateverSteps(t *testing.T) { // P6.5, P0.3
	for seed := range int64(300) {
		r := rand.New(rand.NewSource(seed))
		m := machine(t)
		m.Arena().Store(api.CellNumbers, 1<<34)
		var stays [2][]entry // made anew at each step, as far as that comes
		for w := range stays {
			m.Begin(func(a *tasks.Act) any {
				stays[w] = nil
				for i := range 6 {
					stays[w] = append(stays[w], entry{})
					stays[w][i].epoch = Enter(a, w)
					stays[w][i].taken = a.Add(api.CellNumbers, api.WordStep)
					a.Load(0)
					Leave(a, w)
				}
				return nil
			}, nil)
		}
		var settled []int64
		m.Begin(func(a *tasks.Act) any {
			settled = nil
			for range 12 {
				Advance(a, len(stays))
				settled = append(settled, Settle(a, len(stays)))
			}
			return nil
		}, nil)
		var over []int64 // up to which epoch all was over, by each number that was given
		for range 400 {
			m.Pick(r.Intn(4))
			w, _ := m.Arena().Load(api.CellNumbers)
			for len(over) <= int(tid.Number(w)) {
				over = append(over, 0)
			}
			for i, d := range settled {
				if i > 0 && d < settled[i-1] {
					t.Fatalf("seed %d: Snapshots fell from %d to %d", seed, settled[i-1], d)
				}
				over[tid.Number(w)] = d
			}
			for worker, l := range stays {
				if n := len(l); n > 0 && l[n-1].epoch > 0 && tid.Epoch(w) > l[n-1].epoch+1 {
					if has, _ := m.Arena().Load(uint64(api.CellWorker + worker)); has != 0 {
						t.Fatalf("seed %d: the epoch is %d, a worker was told %d", seed, tid.Epoch(w), l[n-1].epoch)
					}
				}
			}
		}
		for _, l := range stays {
			for _, e := range l {
				if n := tid.Number(e.taken); n > 0 && tid.Epoch(e.taken) <= over[n-1] {
					t.Fatalf("seed %d: a number of %d was given when all up to %d was over", seed, tid.Epoch(e.taken), over[n-1])
				}
			}
		}
	}
}

// TestPinsHold: what is needed is never above a pin, whatever steps.
func TestPinsHold(t *testing.T) { // P6.5
	for seed := range int64(200) {
		r := rand.New(rand.NewSource(seed))
		m := machine(t)
		var pin [2]int64
		for w := range pin {
			m.Begin(func(a *tasks.Act) any {
				for range 5 {
					pin[w] = -1
					pin[w] = Pin(a, w)
					a.Load(0)
					a.Load(0)
					pin[w] = -1
					Unpin(a, w)
				}
				return nil
			}, nil)
		}
		held := [2]int64{-1, -1} // pins that were there when the asking began
		var needed []int64
		begun := 0
		m.Begin(func(a *tasks.Act) any {
			needed = nil
			for i := range 10 {
				if i >= begun {
					begun, held = i+1, pin
				}
				needed = append(needed, Needed(a, 2))
				if i == begun-1 {
					for w, e := range held {
						if e >= 0 && e == pin[w] && needed[i] > e {
							t.Fatalf("seed %d: %d is needed, %d is pinned", seed, needed[i], e)
						}
					}
				}
			}
			return nil
		}, nil)
		m.Begin(func(a *tasks.Act) any {
			for e := range uint64(30) {
				a.Store(api.CellSnapshots, e)
			}
			return nil
		}, nil)
		for range 300 {
			m.Pick(r.Intn(4))
		}
	}
}
