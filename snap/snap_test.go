package snap

import (
	"fmt"
	"math/rand"
	"slices"
	"strings"
	"testing"

	"garner/api"
	"garner/catalog"
	"garner/cells"
	"garner/disk"
	"garner/epoch"
	"garner/log"
	"garner/model"
	"garner/row"
	"garner/tasks"
	"garner/tid"
	"garner/tree"
	"garner/txn"
)

func job(tables ...int) api.Job {
	return api.Job{Workers: 3, Loggers: 1, Width: 3, Cells: 16384, Disk: 1024, Every: 1, Tables: tables}
}

func laid(t *testing.T, j api.Job) *tasks.Machine {
	t.Helper()
	a, _ := cells.New(j.Cells)
	d, _ := disk.New(j.Disk)
	m, e := tasks.New(a, d)
	if e != api.OK {
		t.Fatal(e)
	}
	alone(t, m, func(a *tasks.Act) {
		epoch.Start(a, 1)
		for n := range catalog.All(j) {
			tree.Make(a, cell(n), j.Width)
		}
	})
	return m
}

func alone(t *testing.T, m *tasks.Machine, f func(a *tasks.Act)) {
	t.Helper()
	if _, ok := m.Alone(func(a *tasks.Act) any { f(a); return nil }); !ok {
		t.Fatal("it is not done at once")
	}
}

func op(kind api.OpKind, key, to string, most int, l ...string) api.Op {
	o := api.Op{Kind: kind, Key: []byte(key), To: []byte(to), Most: most}
	for _, f := range l {
		o.Row = append(o.Row, []byte(f))
	}
	return o
}

func get(key string) api.Op              { return op(api.OpGet, key, "", 0) }
func remove(key string) api.Op           { return op(api.OpDelete, key, "", 0) }
func put(key string, l ...string) api.Op { return op(api.OpPut, key, "", 0, l...) }
func of(l ...api.Op) api.Txn             { return api.Txn{Ops: l} }
func reads(l ...api.Op) api.Txn          { return api.Txn{Ops: l, Snapshot: true} }

// reached are all pieces that somebody can find from a tree's cell on; each just once.
func reached(t *testing.T, m *tasks.Machine, at uint64, width int, found map[uint64]bool) {
	t.Helper()
	load := func(at uint64) uint64 { w, _ := m.Arena().Load(at); return w }
	meet := func(piece uint64) {
		if _, ok := m.Arena().Piece(piece); !ok || found[piece] {
			t.Fatalf("%d is found: a piece: %v, twice: %v", piece, ok, found[piece])
		}
		found[piece] = true
	}
	var left func(n uint64) uint64
	left = func(n uint64) uint64 {
		if load(n)&api.NodeBorder != 0 {
			return n
		}
		meet(n)
		w := uint64(width)
		first := left(load(n + 4 + 2*w))
		for i := uint64(1); i <= load(n+1); i++ {
			left(load(n + 4 + 2*w + i))
		}
		return first
	}
	for n := left(load(at)); n != 0; n = load(n + 2) {
		meet(n)
		for order, i := load(n+1), uint64(1); i <= order&15; i++ {
			slot := n + 6 + order>>(4*i)&15
			length, value, tail := load(slot+uint64(width)), slot+2*uint64(width), load(slot+3*uint64(width))
			if length == 9 && tail == 0 {
				reached(t, m, value, width, found)
				continue
			}
			if tail != 0 {
				meet(tail)
			}
			for v := load(value); v != 0; v = load(v + 2) {
				meet(v)
				if r := load(v + 1); r != 0 {
					meet(r)
				}
			}
		}
	}
}

// clean: is each piece one that somebody can find, or waste, or lost for a box?
func clean(t *testing.T, m *tasks.Machine, j api.Job, l []api.Waste) {
	t.Helper()
	found := map[uint64]bool{}
	for n := range catalog.All(j) {
		reached(t, m, cell(n), j.Width, found)
	}
	var waste []uint64
	for _, w := range l {
		waste = append(waste, w.Cells...)
	}
	for w := range j.Workers {
		for _, b := range m.Box(api.MaxWorkers + w) {
			waste = append(waste, addresses(b)...)
		}
	}
	for _, piece := range waste {
		if _, ok := m.Arena().Piece(piece); !ok || found[piece] {
			t.Fatalf("%d is waste: a piece: %v, found: %v", piece, ok, found[piece])
		}
		found[piece] = true
	}
	for piece, n := range m.Arena().All() {
		if !found[piece] {
			t.Fatalf("%d, of %d cells, is lost", piece, n)
		}
	}
	if m.Stray() != 0 {
		t.Fatalf("Stray is %d", m.Stray())
	}
}

func TestExamples(t *testing.T) { // P18.1, P18.3
	j := job(1)
	m := laid(t, j)
	seats := txn.Seats(j)
	alone(t, m, func(a *tasks.Act) {
		abort := of(put("c", "q"))
		abort.Abort = true
		for _, x := range []api.Txn{of(put("a", "x", "y"), get("a")), of(op(api.OpInsert, "a", "", 0, "z"), remove("b")), of(remove("a")), abort} {
			txn.Run(a, seats[0], x, nil)
		}
		epoch.Advance(a, 3)
		epoch.Advance(a, 3)
		epoch.Settle(a, 3)
		o := Run(a, seats[1], reads(get("a"), op(api.OpScan, "", "", 5), op(api.OpLook, "", "", 5)), nil)
		if len(o.Results) != 3 || o.Results[0].Errno != api.ErrNone || o.Results[1].Rows != nil || o.Results[2].Rows != nil || o.TID != (api.TID{Epoch: 2}) || o.Errno != api.OK {
			t.Errorf("%+v", o)
		}
		l := Collect(a, j, nil)
		if len(l) != 1 || l[0].Epoch != 3 || len(l[0].Cells) != 4 { // a's row, and the records of a, its entry, and c
			t.Errorf("the waste is %+v", l)
		}
		clean(t, m, j, l)
		epoch.Advance(a, 3)
		if l = Collect(a, j, l); len(l) != 0 {
			t.Errorf("the waste is %+v", l)
		}
		clean(t, m, j, nil)
	})
}

func TestWhatMayNotBe(t *testing.T) { // P18.1
	j := job(1)
	m := laid(t, j)
	for i, x := range []api.Txn{of(), of(get("a")), reads(put("a", "x")), reads(get("")), {Snapshot: true, Abort: true}} {
		n, _ := m.Begin(func(a *tasks.Act) any {
			return fmt.Sprint(Run(a, txn.Seats(j)[0], x, func(api.Outcome) { t.Error("it is told") }))
		}, nil)
		m.Step(n)
		if at, _ := m.At(n); at.Answer != fmt.Sprint(api.Outcome{Errno: api.ErrArg}) || at.Done != 0 {
			t.Errorf("%d: %+v", i, at)
		}
	}
	if o := Run(nil, txn.Seats(j)[0], reads(), nil); o.Errno != api.ErrNil {
		t.Errorf("%+v", o)
	}
	e, l := Tables(nil, api.Job{}, 4)
	if e != 0 || l != nil {
		t.Errorf("%d, %v", e, l)
	}
	mine := []api.Waste{{Epoch: 1, Cells: []uint64{70}}}
	if l := Collect(nil, j, mine); len(l) != 1 || l[0].Epoch != 1 {
		t.Errorf("%v", l)
	}
	m.Alone(func(a *tasks.Act) any {
		if l := Collect(a, api.Job{}, mine); len(l) != 1 || &l[0].Cells[0] == &mine[0].Cells[0] {
			t.Errorf("%v", l)
		}
		return nil
	})
}

func TestTold(t *testing.T) { // P18.1
	j := job(1)
	m := laid(t, j)
	alone(t, m, func(a *tasks.Act) {
		txn.Run(a, txn.Seats(j)[1], of(put("a", "x", "y")), nil)
		epoch.Advance(a, 3)
		epoch.Settle(a, 3)
	})
	before := m.Pushed(9)
	calls, pushed := 0, 0
	var said api.Outcome
	n, _ := m.Begin(func(a *tasks.Act) any {
		return fmt.Sprint(Run(a, txn.Seats(j)[1], reads(get("a"), op(api.OpLook, "y", "", 5)), func(o api.Outcome) { calls++; said = o }))
	}, nil)
	for m.Step(n) == api.OK {
		if m.Pushed(9) > before+pushed {
			if pin, _ := m.Arena().Load(api.CellPin + 1); calls != 1 || pin != 2 {
				t.Errorf("it was pushed, and told %d times; the pin is %d", calls, pin)
			}
			pushed++
		}
	}
	at, _ := m.At(n)
	if pin, _ := m.Arena().Load(api.CellPin + 1); at.Answer != fmt.Sprint(said) || calls < 2 || pushed != 1 || pin != 0 || len(m.Box(9)[0]) != 0 {
		t.Errorf("%v was told as %v, %d times", at.Answer, said, calls)
	}
	if w, _ := m.Arena().Load(api.CellWorker + 1); w != 0 {
		t.Error("a reader of a snapshot has an epoch")
	}
}

// some is a transaction by chance.
func some(r *rand.Rand, j api.Job, snapshot bool) api.Txn {
	x := api.Txn{Snapshot: snapshot}
	name := func() []byte {
		return []byte([]string{"a", "b", "abcdefgh", "abcdefghi", "abcdefghijklmnopqrst", "c", "\x00", "d"}[r.Intn(8)])
	}
	field := func() []byte { return []byte([]string{"", "x", "y", "\x00", "xyz"}[r.Intn(5)]) }
	for range 1 + r.Intn(4) {
		o := api.Op{Kind: api.OpKind(1 + r.Intn(6)), Table: r.Intn(len(j.Tables)), Key: name()}
		switch o.Kind {
		case api.OpPut, api.OpInsert:
			for range 1 + r.Intn(3) {
				o.Row = append(o.Row, field())
			}
		case api.OpScan:
			o.To, o.Most = name()[:r.Intn(2)], 1+r.Intn(9)
		case api.OpLook:
			o.Key, o.To, o.Most = field(), field(), 1+r.Intn(9)
			if j.Tables[o.Table] == 0 {
				continue
			}
			o.Index = r.Intn(j.Tables[o.Table])
		}
		if !snapshot || o.Kind != api.OpPut && o.Kind != api.OpInsert && o.Kind != api.OpDelete {
			x.Ops = append(x.Ops, o)
		}
	}
	x.Abort = !snapshot && r.Intn(9) == 0
	return x
}

// stored are a model's tables, as a reader of a snapshot tells them; numbers has each key's.
func stored(m *model.Model, numbers map[string]api.TID) [][]api.Stored {
	var all [][]api.Stored
	for i, t := range m.Tables() {
		var l []api.Stored
		for _, p := range t {
			l = append(l, api.Stored{Key: p.Key, Row: p.Row, TID: numbers[fmt.Sprint(i, string(p.Key))]})
		}
		all = append(all, l)
	}
	return all
}

// past is what stood at the end of each epoch.
type past struct {
	models  []*model.Model
	numbers []map[string]api.TID
}

// of makes it of transactions, in the order of their numbers.
func (p *past) of(j api.Job, epochs int64, l []done) {
	m, _ := model.New(j)
	numbers := map[string]api.TID{}
	for e := int64(0); e <= epochs; e++ {
		for ; len(l) > 0 && l[0].o.TID.Epoch == e; l = l[1:] {
			writes, _ := m.Writes(l[0].t)
			m.Apply(writes...)
			for _, w := range writes {
				numbers[fmt.Sprint(w.Table, string(w.Key))] = l[0].o.TID
			}
		}
		c := map[string]api.TID{}
		for k, n := range numbers {
			c[k] = n
		}
		p.models, p.numbers = append(p.models, m.Copy()), append(p.numbers, c)
	}
}

type done struct {
	t api.Txn
	o api.Outcome
}

func byTID(a, b done) int {
	if log.Less(a.o.TID, b.o.TID) {
		return -1
	}
	return 1
}

func same(a, b [][]api.Stored) bool {
	return slices.EqualFunc(a, b, func(x, y []api.Stored) bool {
		return slices.EqualFunc(x, y, func(s, o api.Stored) bool {
			return string(s.Key) == string(o.Key) && row.Same(s.Row, o.Row) && s.TID == o.TID
		})
	})
}

// TestElderEpochs: readers see what stood at the end of their epoch, as long as it is needed; and nothing else is kept.
func TestElderEpochs(t *testing.T) { // P18.1 to P18.3
	for seed := range int64(40) {
		r := rand.New(rand.NewSource(seed))
		j := job([][]int{{0}, {1}, {2, 0}}[r.Intn(3)]...)
		m := laid(t, j)
		var all []done
		alone(t, m, func(a *tasks.Act) {
			var l []api.Waste
			pinned := int64(0)
			for e := int64(1); e < 12; e++ {
				for range 6 {
					x := some(r, j, false)
					if o := txn.Run(a, txn.Seats(j)[r.Intn(2)], x, nil); o.Errno == api.OK {
						all = append(all, done{x, o})
					}
				}
				epoch.Advance(a, 3)
				epoch.Settle(a, 3)
				if e == 4 {
					pinned = epoch.Pin(a, 2)
				}
				var p past
				p.of(j, e, all)
				check := func(at int64) {
					now := a.Load(api.CellSnapshots)
					a.Store(api.CellSnapshots, uint64(at))
					for range 4 {
						x := some(r, j, true)
						want, _ := p.models[at].Try(x)
						if o := Run(a, txn.Seats(j)[1], x, nil); !model.SameResults(o.Results, want) || o.TID != (api.TID{Epoch: at}) {
							t.Fatalf("seed %d, epoch %d: %+v is %v, want %v", seed, at, x, o.Results, want)
						}
					}
					if got, l := Tables(a, j, 4); got != at || !same(l, stored(p.models[at], p.numbers[at])) {
						t.Fatalf("seed %d: at %d tables are %v", seed, at, l)
					}
					a.Store(api.CellSnapshots, now)
				}
				check(e)
				if pinned > 0 && e < 9 {
					check(pinned)
				}
				if e == 9 {
					epoch.Unpin(a, 2)
				}
				before := len(l)
				if l = Collect(a, j, l); pinned > 0 && e < 9 && len(l) < before {
					t.Fatalf("seed %d: waste was given back while a snapshot was pinned", seed)
				}
				clean(t, m, j, l)
			}
			for range 3 {
				epoch.Advance(a, 3)
				epoch.Settle(a, 3)
				l = Collect(a, j, l)
			}
			if len(l) != 0 {
				t.Fatalf("seed %d: %v is left", seed, l)
			}
			clean(t, m, j, nil)
			for n := range catalog.All(j) { // nothing elder, nothing absent is left
				tree.Scan(a, cell(n), j.Width, nil, func(api.Seen) {}, func(key []byte, rec uint64) bool {
					if a.Load(rec+2) != 0 || tid.Absent(a.Load(rec)) {
						t.Fatalf("seed %d: %q has %d", seed, key, a.Load(rec))
					}
					return true
				})
			}
		})
	}
}

// TestWhateverSteps lets workers write, others read snapshots, and one collect, all at once.
func TestWhateverSteps(t *testing.T) { // P18.4, P0.3, P0.4
	t.Parallel()
	collected, snapshots := 0, 0
	for seed := range int64(40) {
		r := rand.New(rand.NewSource(seed))
		j := job([][]int{{0}, {1}, {2}, {1, 0}}[r.Intn(4)]...)
		m := laid(t, j)
		var all, shots []done
		sessions := func(worker, n int, snapshot func() bool) {
			var l []api.Txn
			for range n {
				l = append(l, some(r, j, snapshot()))
			}
			at := 0
			run := func(x api.Txn) tasks.Task {
				return func(a *tasks.Act) any {
					if x.Snapshot {
						return Run(a, txn.Seats(j)[worker], x, nil)
					}
					return txn.Run(a, txn.Seats(j)[worker], x, nil)
				}
			}
			m.Begin(run(l[0]), func(last any) (tasks.Task, bool) {
				o := last.(api.Outcome)
				switch {
				case l[at].Snapshot:
					shots = append(shots, done{l[at], o})
				case o.Errno == api.OK:
					all = append(all, done{l[at], o})
				}
				at++
				return run(l[min(at, n-1)]), at < n
			})
		}
		sessions(0, 14, func() bool { return false })
		sessions(1, 14, func() bool { return r.Intn(4) == 0 })
		sessions(2, 20, func() bool { return true })
		m.Begin(func(a *tasks.Act) any { // epochs go on
			for range 60 {
				epoch.Advance(a, 3)
				epoch.Settle(a, 3)
			}
			return nil
		}, nil)
		type look struct {
			epoch int64
			l     [][]api.Stored
		}
		var looks []look
		var waste []api.Waste
		rounds := 0
		m.Begin(func(a *tasks.Act) any { return Collect(a, j, nil) }, func(last any) (tasks.Task, bool) {
			l := last.([]api.Waste)
			waste = l
			rounds++
			return func(a *tasks.Act) any { return Collect(a, j, l) }, rounds < 25
		})
		m.Begin(func(a *tasks.Act) any { e, l := Tables(a, j, 4); return look{e, l} }, func(last any) (tasks.Task, bool) {
			looks = append(looks, last.(look))
			return func(a *tasks.Act) any { e, l := Tables(a, j, 4); return look{e, l} }, len(looks) < 8
		})
		for i := 0; len(m.Going()) > 0; i++ {
			n := r.Intn(64)
			for range 1 + r.Intn(1+int(seed%40)) {
				m.Pick(n)
			}
			if i > 300000 {
				t.Fatalf("seed %d: it does not end", seed)
			}
		}
		clean(t, m, j, waste)
		slices.SortFunc(all, byTID)
		var p past
		p.of(j, 70, all)
		last := map[int]int64{}
		for _, s := range shots {
			want, _ := p.models[s.o.TID.Epoch].Try(s.t)
			if s.o.Errno != api.OK || !model.SameResults(s.o.Results, want) {
				t.Fatalf("seed %d: at %d %+v is %v, want %v", seed, s.o.TID.Epoch, s.t, s.o.Results, want)
			}
			snapshots++
		}
		for _, l := range looks {
			if l.epoch < last[0] || !same(l.l, stored(p.models[l.epoch], p.numbers[l.epoch])) {
				t.Fatalf("seed %d: at %d tables are %v, want %v", seed, l.epoch, l.l, stored(p.models[l.epoch], p.numbers[l.epoch]))
			}
			last[0] = l.epoch
		}
		before := m.Arena().Free()
		alone(t, m, func(a *tasks.Act) {
			for range 4 {
				epoch.Advance(a, 3)
				epoch.Settle(a, 3)
				waste = Collect(a, j, waste)
			}
			if len(waste) != 0 {
				t.Fatalf("seed %d: %v is left", seed, waste)
			}
		})
		collected += m.Arena().Free() - before
		clean(t, m, j, nil)
	}
	if snapshots < 100 || collected == 0 {
		t.Errorf("%d snapshots, %d cells collected at the end", snapshots, collected)
	}
}

// TestWrittenMeanwhile stops who collects at each step, and writes what is absent.
func TestWrittenMeanwhile(t *testing.T) { // P18.3, P18.4
	j := job(1)
	j.Cells = 2048
	for _, x := range []api.Txn{of(put("a", "1", "x")), of(op(api.OpInsert, "a", "", 0, "1", "x"), put("b", "2", "x"))} {
		for i, ended := 0, false; !ended; i++ {
			m := laid(t, j)
			alone(t, m, func(a *tasks.Act) {
				txn.Run(a, txn.Seats(j)[0], of(put("a", "0", "x"), put("b", "0", "y")), nil)
				txn.Run(a, txn.Seats(j)[0], of(remove("a")), nil)
				epoch.Advance(a, 3)
				epoch.Settle(a, 3)
			})
			var waste []api.Waste
			var o api.Outcome
			keep := func(last any) (tasks.Task, bool) { waste = last.([]api.Waste); return nil, false }
			c, _ := m.Begin(func(a *tasks.Act) any { return Collect(a, j, nil) }, keep)
			for range i {
				ended = m.Step(c) != api.OK || ended
			}
			w, _ := m.Begin(func(a *tasks.Act) any { return txn.Run(a, txn.Seats(j)[1], x, nil) }, func(last any) (tasks.Task, bool) {
				o = last.(api.Outcome)
				return nil, false
			})
			for range 300 {
				m.Step(w)
			}
			for _, n := range []int{c, w} {
				for m.Step(n) == api.OK {
				}
			}
			clean(t, m, j, waste)
			is, _ := model.New(j)
			is.Do(of(put("b", "0", "y")))
			switch o.Errno {
			case api.OK:
				is.Do(x)
			case api.ErrConflict:
			default:
				t.Fatalf("behind %d steps: %v", i, o.Errno)
			}
			alone(t, m, func(a *tasks.Act) {
				epoch.Advance(a, 3)
				epoch.Settle(a, 3)
				o := Run(a, txn.Seats(j)[1], reads(op(api.OpScan, "", "", 9), op(api.OpLook, "", "", 9)), nil)
				want, _ := is.Do(reads(op(api.OpScan, "", "", 9), op(api.OpLook, "", "", 9)))
				if !model.SameResults(o.Results, want) {
					t.Fatalf("behind %d steps there is %v, want %v", i, o.Results, want)
				}
			})
		}
	}
}

// TestAlone: who writes keys that no other one touches commits, whoever collects.
func TestAlone(t *testing.T) { // P0.7
	for seed := range int64(60) {
		r := rand.New(rand.NewSource(seed))
		j := job(1)
		m := laid(t, j)
		var l []api.Txn
		for i := range 12 {
			l = append(l, of(put(fmt.Sprint("k", i%3), fmt.Sprint(i), strings.Repeat("x", i)), get(fmt.Sprint("k", (i+1)%3))))
		}
		at := 0
		m.Begin(func(a *tasks.Act) any { return txn.Run(a, txn.Seats(j)[0], l[0], nil) }, func(last any) (tasks.Task, bool) {
			if o := last.(api.Outcome); o.Errno != api.OK {
				t.Errorf("seed %d: the transaction %d: %v", seed, at, o.Errno)
			}
			at++
			x := l[min(at, len(l)-1)]
			return func(a *tasks.Act) any { return txn.Run(a, txn.Seats(j)[0], x, nil) }, at < len(l)
		})
		goOn := func(a *tasks.Act) any { epoch.Advance(a, 1); return epoch.Settle(a, 1) }
		m.Begin(goOn, func(any) (tasks.Task, bool) { return goOn, true })
		m.Begin(func(a *tasks.Act) any { return Collect(a, j, nil) }, func(last any) (tasks.Task, bool) {
			l := last.([]api.Waste)
			return func(a *tasks.Act) any { return Collect(a, j, l) }, true
		})
		for range 6000 {
			m.Pick(r.Intn(3))
		}
	}
}
