package logger

import (
	"fmt"
	"math"
	"math/rand"
	"slices"
	"testing"

	"garner/api"
	"garner/cells"
	"garner/disk"
	"garner/epoch"
	"garner/log"
	"garner/tasks"
	"garner/tid"
)

func job(workers, loggers int) api.Job {
	return api.Job{Workers: workers, Loggers: loggers, Width: 3, Cells: 1024, Disk: 1024, Every: 1, Tables: []int{0}}
}

func machine(t *testing.T, room int) *tasks.Machine {
	t.Helper()
	a, _ := cells.New(1024)
	d, _ := disk.New(room)
	m, e := tasks.New(a, d)
	if e != api.OK {
		t.Fatal(e)
	}
	return m
}

func alone(t *testing.T, m *tasks.Machine, f func(a *tasks.Act)) {
	t.Helper()
	if _, ok := m.Alone(func(a *tasks.Act) any { f(a); return nil }); !ok {
		t.Fatal("it is not done at once")
	}
}

// actions are the actions of a function, done by steps, as far as it goes on.
func actions(m *tasks.Machine, f func(a *tasks.Act)) int {
	n, _ := m.Begin(func(a *tasks.Act) any { f(a); return nil }, nil)
	for m.Step(n) == api.OK {
	}
	at, _ := m.At(n)
	return at.Done
}

func cell(t *testing.T, m *tasks.Machine, at, want uint64) {
	t.Helper()
	if w, _ := m.Arena().Load(at); w != want {
		t.Errorf("cell %d has %d, want %d", at, w, want)
	}
}

func file(t *testing.T, m *tasks.Machine, name, want string, lasts int) {
	t.Helper()
	b, _ := m.Disk().Read(name)
	if n, _ := m.Disk().Lasting(name); string(b) != want || n != lasts {
		t.Errorf("%s has %q, of which %d last; want %q, %d", name, b, n, want, lasts)
	}
}

func durable(t *testing.T, m *tasks.Machine, want api.Durable) {
	t.Helper()
	b, e := m.Disk().Read(api.DurableName)
	n, _ := m.Disk().Lasting(api.DurableName)
	if d, bad := log.ReadDurable(b); d != want || e != api.OK || bad != api.OK || n != len(b) {
		t.Errorf("durable is %+v, %v, %v", d, e, bad)
	}
}

func TestExamples(t *testing.T) {
	j := job(2, 1)
	m := machine(t, 1024)
	alone(t, m, func(a *tasks.Act) {
		epoch.Start(a, 3)
		a.Push(0, []byte("x"))
		a.Push(1, []byte("y"))
		if kept := Round(a, j, 0, "log.1.0", nil); kept != nil {
			t.Errorf("kept is %q", kept)
		}
	})
	file(t, m, "log.1.0", "xy", 2)
	cell(t, m, api.CellLogger, 2)
	alone(t, m, func(a *tasks.Act) { Durable(a, j, 1) })
	durable(t, m, api.Durable{Generation: 1, Epoch: 2})
	cell(t, m, api.CellDurable, 2)
	m.Disk().Append("fill", make([]byte, 1024-m.Disk().Used()))
	alone(t, m, func(a *tasks.Act) {
		epoch.Advance(a, 2)
		a.Push(1, []byte("z"))
		if kept := Round(a, j, 0, "log.1.0", nil); string(kept) != "z" {
			t.Errorf("kept is %q", kept)
		}
	})
	cell(t, m, api.CellLogger, 2)
	file(t, m, "log.1.0", "xy", 2)
}

func TestWorkers(t *testing.T) { // P19.1
	for _, x := range []struct {
		workers, loggers, logger int
		want                     []int
	}{{4, 1, 0, []int{0, 1, 2, 3}}, {4, 2, 0, []int{0, 2}}, {3, 2, 1, []int{1}}, {2, 2, 1, []int{1}}, {3, 2, 2, nil}, {3, 2, -1, nil}, {3, 1, 1, nil}, {3, 2, math.MaxInt, nil}, {3, 2, math.MinInt, nil},
		// More loggers than workers: the last one has none.
		{1, 2, 0, []int{0}}, {1, 2, 1, nil}, {1, 2, 2, nil},
		{0, 1, 0, nil}, {-1, 1, 0, nil}, {2, 0, 0, nil}, {2, 0, -1, nil}, {2, -1, 0, nil}, {math.MinInt, math.MinInt, 0, nil},
		// Beyond the bounds: who has no cell is none.
		{5, 2, 0, []int{0, 2}}, {math.MaxInt, 1, 0, []int{0, 1, 2, 3}}, {4, 3, 0, []int{0, 3}}, {4, 3, 2, nil}, {4, math.MaxInt, 1, []int{1}}, {4, math.MaxInt, 3, nil}} {
		if l := Workers(job(x.workers, x.loggers), x.logger); !slices.Equal(l, x.want) {
			t.Errorf("Workers of %+v are %v", x, l)
		}
		// What else the job says is of no weight.
		if l := Workers(api.Job{Workers: x.workers, Loggers: x.loggers}, x.logger); !slices.Equal(l, x.want) {
			t.Errorf("Workers of %+v, of a job that says nothing else, are %v", x, l)
		}
	}
}

// TestNoWorkers: a logger that has no workers says up to where it is done, or nothing ever were durable.
func TestNoWorkers(t *testing.T) { // P19.1, P19.2
	j := api.Job{Workers: 1, Loggers: 2}
	m := machine(t, 1024)
	alone(t, m, func(a *tasks.Act) {
		epoch.Start(a, 5)
		epoch.Enter(a, 0)
		epoch.Advance(a, 1)
		a.Push(0, []byte("x"))
		a.Push(1, []byte("y"))
		if b := Round(a, j, 1, "log.1.1", nil); b != nil {
			t.Errorf("kept is %q", b)
		}
		Durable(a, j, 1)
	})
	cell(t, m, api.CellLogger+1, 5)
	if n := len(m.Disk().Names()) + m.Disk().Used(); n != 0 {
		t.Errorf("the disk has files %v", m.Disk().Names())
	}
	if n := actions(m, func(a *tasks.Act) { Round(a, j, 1, "log.1.1", nil) }); n != 2 { // the epoch of all, its cell
		t.Errorf("a round of no workers has %d actions", n)
	}
	alone(t, m, func(a *tasks.Act) {
		if b := Round(a, j, 0, "log.1.0", nil); b != nil {
			t.Errorf("kept is %q", b)
		}
		if b := Round(a, j, 1, "log.1.1", []byte("kept")); b != nil {
			t.Errorf("kept is %q", b)
		}
		Durable(a, j, 1)
	})
	file(t, m, "log.1.0", "x", 1)
	file(t, m, "log.1.1", "kept", 4)
	durable(t, m, api.Durable{Generation: 1, Epoch: 4})
	cell(t, m, api.CellDurable, 4)
	if len(m.Box(1)) != 1 {
		t.Error("the box of one that is no worker was emptied")
	}
}

// TestWhateverJob: no job leads a logger to a cell that is not its own, or makes durable what stands in no log.
func TestWhateverJob(t *testing.T) { // P19.1, P19.2, P0.5
	odd := []int{math.MinInt, -1, 0, 1, 3, 5, math.MaxInt}
	for _, workers := range odd {
		for _, loggers := range odd {
			m := machine(t, 1024)
			alone(t, m, func(a *tasks.Act) {
				epoch.Start(a, 7)
				a.Push(2, []byte("x"))
				for l := range api.CellRoot - api.CellLogger {
					j := api.Job{Workers: workers, Loggers: loggers}
					b := Round(a, j, int(l), "log.1.0", []byte("k"))
					if is := int(l) < min(loggers, api.MaxLoggers); is == (string(b) == "k") {
						t.Errorf("%d workers, %d loggers: the logger %d keeps %q", workers, loggers, l, b)
					}
				}
			})
			for c := uint64(api.CellDurable); c < api.CellRoot; c++ {
				cell(t, m, c, 0)
			}
			m.Arena().Store(api.CellLogger+1, 6)
			alone(t, m, func(a *tasks.Act) { Durable(a, api.Job{Workers: workers, Loggers: loggers}, 1) })
			want := uint64(0)
			if loggers == 1 {
				want = 6
			}
			cell(t, m, api.CellDurable, want)
		}
	}
}

func TestRound(t *testing.T) { // P19.1
	j := job(4, 2)
	m := machine(t, 1024)
	alone(t, m, func(a *tasks.Act) {
		epoch.Start(a, 9)
		epoch.Enter(a, 1)
		epoch.Advance(a, 4)
		for i, s := range []string{"a", "b", "c", "d", "e"} {
			a.Push(3-i%4, []byte(s)) // in the boxes 3, 2, 1, 0, 3
		}
		kept := []byte("kept ")
		if b := Round(a, j, 1, "log.2.1", kept); b != nil || string(kept) != "kept " {
			t.Errorf("kept is %q", b)
		}
	})
	file(t, m, "log.2.1", "kept cae", 8) // rising workers, behind what was kept
	cell(t, m, api.CellLogger, 0)
	cell(t, m, api.CellLogger+1, 8) // a worker has 9
	if n := len(m.Box(0)) + len(m.Box(2)); n != 2 {
		t.Errorf("the boxes of others have %d", n)
	}
	alone(t, m, func(a *tasks.Act) {
		if b := Round(a, j, 0, "log.2.0", nil); b != nil {
			t.Errorf("kept is %q", b)
		}
		epoch.Start(a, 2) // it never falls
		if b := Round(a, j, 1, "log.2.1", nil); b != nil {
			t.Errorf("kept is %q", b)
		}
	})
	cell(t, m, api.CellLogger, 9)
	cell(t, m, api.CellLogger+1, 8)
	if n := actions(m, func(a *tasks.Act) { Round(a, j, 1, "log.2.1", nil) }); n != 6 { // Done: 3, two boxes, a cell
		t.Errorf("a round without anything to write has %d actions", n)
	}
	alone(t, m, func(a *tasks.Act) { // a name that may not be: the disk refuses it
		epoch.Start(a, 20)
		if b := Round(a, j, 0, "a b", []byte("x")); string(b) != "x" {
			t.Errorf("kept is %q", b)
		}
	})
	cell(t, m, api.CellLogger, 9)
	for _, l := range []int{-1, 2, math.MaxInt} {
		if n := actions(m, func(a *tasks.Act) {
			if b := Round(a, j, l, "log.2.2", []byte("x")); string(b) != "x" {
				t.Errorf("kept is %q", b)
			}
		}); n != 0 {
			t.Errorf("the logger %d has %d actions", l, n)
		}
	}
	if b := Round(nil, j, 0, "log.2.0", []byte("x")); string(b) != "x" {
		t.Errorf("kept is %q", b)
	}
}

// TestSyncRefused: what was appended, and not synced for sure, is kept.
func TestSyncRefused(t *testing.T) { // P19.1
	j := job(1, 1)
	m := machine(t, 1024)
	m.Arena().Store(api.CellNumbers, 5<<34)
	n, _ := m.Begin(func(a *tasks.Act) any { return fmt.Sprintf("%s", Round(a, j, 0, "log.1.0", []byte("x"))) }, nil)
	for m.Disk().Used() == 0 {
		m.Step(n)
	}
	m.Disk().Remove("log.1.0")
	for m.Step(n) == api.OK {
	}
	if at, _ := m.At(n); at.Answer != "x" {
		t.Errorf("kept is %v", at.Answer)
	}
	cell(t, m, api.CellLogger, 0)
}

func TestDurable(t *testing.T) { // P19.2
	j := job(2, 2)
	m := machine(t, 1024)
	set := func(l ...uint64) {
		for i, n := range l {
			m.Arena().Store(api.CellLogger+uint64(i), n)
		}
	}
	set(7, 5, 9) // the last one is CellDurable
	if n := actions(m, func(a *tasks.Act) { Durable(a, j, 1) }); n != 3 || len(m.Disk().Names()) != 0 {
		t.Errorf("it has %d actions, and files %v", n, m.Disk().Names())
	}
	set(7, 5, 4)
	m.Disk().Append("durable.new", []byte("of an elder crash"))
	m.Disk().Append("durable", []byte("an elder one"))
	if n := actions(m, func(a *tasks.Act) { Durable(a, j, 3) }); n != 8 || !slices.Equal(m.Disk().Names(), []string{"durable"}) {
		t.Errorf("it has %d actions, and files %v", n, m.Disk().Names())
	}
	durable(t, m, api.Durable{Generation: 3, Epoch: 5})
	cell(t, m, api.CellDurable, 5)
	set(7, 8)
	alone(t, m, func(a *tasks.Act) { Durable(a, job(1, 1), 3) })
	durable(t, m, api.Durable{Generation: 3, Epoch: 7})
	set(20, 20)
	m.Disk().Append("fill", make([]byte, m.Disk().Room()-m.Disk().Used()-3))
	alone(t, m, func(a *tasks.Act) { Durable(a, j, 3) })
	durable(t, m, api.Durable{Generation: 3, Epoch: 7})
	cell(t, m, api.CellDurable, 7)
	m.Disk().Remove("fill")
	for _, g := range []int64{0, -1, 1 << 31} {
		alone(t, m, func(a *tasks.Act) { Durable(a, j, g) })
	}
	alone(t, m, func(a *tasks.Act) { Durable(a, api.Job{}, 3) })
	Durable(nil, j, 3)
	durable(t, m, api.Durable{Generation: 3, Epoch: 7})
	cell(t, m, api.CellDurable, 7)
}

// TestWhateverSteps lets workers push what they wrote, and crashes at any moment.
func TestWhateverSteps(t *testing.T) { // P19.3, P0.2
	for seed := range int64(200) {
		r := rand.New(rand.NewSource(seed))
		j := job(1+r.Intn(3), 1+r.Intn(2))
		room := 1 << 16
		if seed%5 == 0 {
			room = 1024
		}
		m := machine(t, room)
		m.Arena().Store(api.CellNumbers, 1<<34)
		given := map[api.TID]bool{} // pushed, and by that committed
		for w := range j.Workers {
			work := func(a *tasks.Act) any {
				epoch.Enter(a, w)
				n := a.Add(api.CellNumbers, api.WordStep)
				id := api.TID{Epoch: tid.Epoch(n), Seq: tid.Number(n)}
				b, _ := log.PutTxn(api.Logged{TID: id, Writes: []api.Write{{Key: []byte("k"), Row: api.Row{[]byte("x")}}}})
				given[id] = true
				a.Push(w, b)
				epoch.Leave(a, w)
				return nil
			}
			m.Begin(work, func(any) (tasks.Task, bool) { return work, true })
		}
		for l := range j.Loggers {
			name, _ := log.LogName(1, l)
			var round func(kept []byte) tasks.Task
			round = func(kept []byte) tasks.Task {
				return func(a *tasks.Act) any {
					kept := Round(a, j, l, name, kept)
					if l == 0 {
						Durable(a, j, 1)
					}
					return kept
				}
			}
			m.Begin(round(nil), func(last any) (tasks.Task, bool) { return round(last.([]byte)), true })
		}
		goOn := func(a *tasks.Act) any { _, ok := epoch.Advance(a, 3); return ok }
		m.Begin(goOn, func(any) (tasks.Task, bool) { return goOn, true })
		for range 40 {
			for range 1 + r.Intn(40) {
				m.Pick(r.Intn(60))
			}
			d, _ := m.Disk().Crash()
			said, _ := m.Arena().Load(api.CellDurable)
			there := map[api.TID]bool{}
			for l := range j.Loggers {
				name, _ := log.LogName(1, l)
				b, _ := d.Read(name)
				txns, n, ok := log.Txns(b)
				if !ok || n != len(b) {
					t.Fatalf("seed %d: %s has %d bytes, of which %d are transactions", seed, name, len(b), n)
				}
				for _, x := range txns {
					if there[x.TID] {
						t.Fatalf("seed %d: %v stands twice", seed, x.TID)
					}
					there[x.TID] = true
				}
			}
			for id := range given {
				if id.Epoch <= int64(said) && !there[id] {
					t.Fatalf("seed %d: all up to %d is durable, and %v is not there", seed, said, id)
				}
			}
			if said > 0 {
				b, _ := d.Read(api.DurableName)
				if x, e := log.ReadDurable(b); e != api.OK || x.Epoch < int64(said) {
					t.Fatalf("seed %d: the file says %v, %v; told was %d", seed, x, e, said)
				}
			}
		}
	}
}
