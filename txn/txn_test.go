package txn

import (
	"fmt"
	"math/rand"
	"slices"
	"strings"
	"testing"

	"garner/api"
	"garner/epoch"
	"garner/log"
	"garner/record"
	"garner/row"
	"garner/tasks"
	"garner/tid"
	"garner/tree"
)

func TestExamples(t *testing.T) {
	j := job(1)
	m := laid(t, j)
	seats := Seats(j)
	abort := of(put("c", "q"))
	abort.Abort = true
	alone(t, m, func(a *tasks.Act) {
		for i, x := range []struct {
			t    api.Txn
			want string
		}{
			{of(put("a", "x", "y"), get("a")), "0 1.1 |0 |0 a=[x y]"},
			{of(insert("a", "z"), remove("b"), get("a")), "0 1.2 |7 |6 |0 a=[x y]"},
			{of(look("y", "", 5), scan("", "", 5)), "0 1.3 |0 a=[x y] |0 a=[x y]"},
			{of(remove("a"), look("y", "", 5)), "0 1.4 |0 |0"},
			{abort, "11 0.0 |0"},
			{of(get("c")), "0 1.5 |6"},
		} {
			if got := told(Run(a, seats[i%3], x.t, nil)); got != x.want {
				t.Errorf("%d: %s, want %s", i, got, x.want)
			}
		}
	})
}

func TestSeatsAndCells(t *testing.T) {
	j := job(0, 2)
	l := Seats(j)
	if len(l) != 3 || l[2].Worker != 2 || l[2].Box != 2 || l[2].Lost != 6 || l[2].Told != 10 || l[2].Job.Width != 3 || len(l[2].Job.Tables) != 2 {
		t.Errorf("Seats are %+v", l)
	}
	l[0].Job.Tables[0] = 9
	if j.Tables[0] != 0 || l[1].Job.Tables[0] != 0 {
		t.Error("Seats share memory")
	}
	if Seats(api.Job{}) != nil {
		t.Error("no job has seats")
	}
	for _, x := range []struct {
		table, index int
		want         uint64
		ok           bool
	}{{0, -1, 16, true}, {1, -1, 17, true}, {1, 1, 19, true}, {0, 0, 0, false}, {2, -1, 0, false}} {
		if c, ok := Cell(j, x.table, x.index); c != x.want || ok != x.ok {
			t.Errorf("Cell(%d, %d) is %d, %v", x.table, x.index, c, ok)
		}
	}
}

func TestWhatMayNotBe(t *testing.T) { // P17.1
	j := job(1)
	m := laid(t, j)
	long := put("a", strings.Repeat("x", 25))
	for i, x := range []api.Txn{{Snapshot: true}, of(long), of(get("")), of(slices.Repeat([]api.Op{get("a")}, 17)...), of(api.Op{}), {Snapshot: true, Abort: true}} {
		n, _ := m.Begin(func(a *tasks.Act) any {
			return told(Run(a, Seats(j)[0], x, func(api.Outcome) { t.Error("it is told") }))
		}, nil)
		m.Step(n)
		if at, _ := m.At(n); at.Answer != "2 0.0" || at.Done != 0 {
			t.Errorf("%d: %+v", i, at)
		}
	}
	if o := Run(nil, Seats(j)[0], of(), nil); o.Errno != api.ErrNil {
		t.Errorf("%v", o)
	}
	if o := Run(&tasks.Act{}, Seats(j)[0], of(put("a", "x"), scan("", "", 9)), nil); o.Errno == api.OK {
		t.Errorf("%v", o)
	}
	if o := Run(nil, api.Seat{}, of(), nil); o.Errno != api.ErrNil {
		t.Errorf("%v", o)
	}
}

// some is a transaction by chance.
func some(r *rand.Rand, j api.Job, keys int) api.Txn {
	var x api.Txn
	name := func() []byte {
		return []byte([]string{"a", "b", "abcdefgh", "abcdefghi", "abcdefghij", "c", "d", "e", "\x00", "f"}[r.Intn(keys)])
	}
	field := func() []byte { return []byte([]string{"", "x", "y", "\x00", "xyz"}[r.Intn(5)]) }
	for range 1 + r.Intn(5) {
		o := api.Op{Kind: api.OpKind(1 + r.Intn(6)), Table: r.Intn(len(j.Tables))}
		switch o.Kind {
		case api.OpPut, api.OpInsert:
			for range 1 + r.Intn(3) {
				o.Row = append(o.Row, field())
			}
			o.Key = name()
		case api.OpScan:
			o.Key, o.Most = []byte{"\x00abc"[r.Intn(4)]}[:r.Intn(2)], 1+r.Intn(6)
			if r.Intn(2) == 0 {
				o.To = name()
			}
		case api.OpLook:
			if j.Tables[o.Table] == 0 {
				continue
			}
			o.Index, o.Key, o.Most = r.Intn(j.Tables[o.Table]), field(), 1+r.Intn(6)
			if r.Intn(2) == 0 {
				o.To = field()
			}
		default:
			o.Key = name()
		}
		x.Ops = append(x.Ops, o)
	}
	x.Abort = r.Intn(9) == 0
	return x
}

// frames are the transactions in a worker's box.
func frames(t *testing.T, m *tasks.Machine, box int) []api.Logged {
	t.Helper()
	l, _, ok := log.Txns(slices.Concat(m.Box(box)...))
	if !ok {
		t.Fatal("the box has no frames")
	}
	return l
}

// TestOneBehindTheOther: alone, transactions do what they mean.
func TestOneBehindTheOther(t *testing.T) { // P17.1, P17.2, P17.4
	for seed := range int64(40) {
		r := rand.New(rand.NewSource(seed))
		j := job([][]int{{0}, {1}, {2, 0}, {2, 1, 0}}[r.Intn(4)]...)
		m, is := laid(t, j), newTables(j)
		want := []api.Logged{}
		empty := 0
		seq := int64(0)
		alone(t, m, func(a *tasks.Act) {
			for i := range 40 {
				x := some(r, j, 10)
				results := is.whole(x)
				o := Run(a, Seats(j)[0], x, nil)
				errno := api.OK
				if x.Abort {
					errno = api.ErrAbort
				} else {
					seq++
				}
				expect := api.Outcome{Errno: errno, Results: results}
				if !x.Abort {
					expect.TID = api.TID{Epoch: 1 + int64(i/10), Seq: seq}
				}
				if told(o) != told(expect) {
					t.Fatalf("seed %d: %+v: %s, want %s", seed, x, told(o), told(expect))
				}
				for k, w := range o.Writes {
					if now, _ := is.Get(w.Table, w.Key); x.Abort || !row.Same(now, w.Row) || k > 0 && fmt.Sprint(o.Writes[k-1].Table, string(o.Writes[k-1].Key)) >= fmt.Sprint(w.Table, string(w.Key)) {
						t.Fatalf("seed %d: %+v wrote %+v", seed, x, o.Writes)
					}
				}
				switch {
				case len(o.Writes) > 0:
					want = append(want, api.Logged{TID: o.TID, Writes: o.Writes})
				case !x.Abort:
					empty++
				}
				if i%10 == 9 {
					epoch.Advance(a, j.Workers)
				}
			}
		})
		is.stands(t, m, j)
		if got := frames(t, m, 0); fmt.Sprint(got) != fmt.Sprint(want) || m.Pushed(8) != empty {
			t.Fatalf("seed %d: the box has %v, want %v; %d without writes, want %d", seed, got, want, m.Pushed(8), empty)
		}
		if w, _ := m.Arena().Load(api.CellWorker); w != 0 {
			t.Fatal("the worker has not left")
		}
	}
}

// driver does tasks by steps.
type driver struct {
	t *testing.T
	m *tasks.Machine
	j api.Job
}

func (d driver) begin(worker int, x api.Txn) int {
	n, _ := d.m.Begin(func(a *tasks.Act) any { return Run(a, Seats(d.j)[worker], x, nil) }, nil)
	return n
}

func (d driver) end(n int) api.Outcome {
	for i := 0; d.m.Step(n) == api.OK; i++ {
		if i > 100000 {
			d.t.Fatal("it does not end")
		}
	}
	at, _ := d.m.At(n)
	return at.Answer.(api.Outcome)
}

func (d driver) first(l ...api.Op) {
	d.t.Helper()
	alone(d.t, d.m, func(a *tasks.Act) {
		if o := Run(a, Seats(d.j)[2], of(l...), nil); o.Errno != api.OK {
			d.t.Fatalf("%v", o.Errno)
		}
	})
}

// done is a transaction, and what became of it.
type done struct {
	t api.Txn
	o api.Outcome
}

func byTID(a, b done) int {
	if log.Less(a.o.TID, b.o.TID) {
		return -1
	}
	return 1
}

// TestConflicts stops a transaction at each of its steps, lets another one be done, and goes on.
func TestConflicts(t *testing.T) { // P17.3, P17.5
	t.Parallel()
	for name, x := range map[string]struct {
		tables     []int
		first      []api.Op
		one, other api.Txn
		never      bool // they have nothing in common
	}{
		"both read and put":                             {[]int{0}, []api.Op{put("a", "0")}, of(get("a"), put("a", "1")), of(get("a"), put("a", "2")), false},
		"both put, and have not read":                   {[]int{0}, []api.Op{put("a", "0")}, of(put("a", "1")), of(put("a", "2")), true},
		"both insert":                                   {[]int{0}, nil, of(insert("a", "1")), of(insert("a", "2")), false},
		"a scan and an insert":                          {[]int{0}, []api.Op{put("b", "0"), put("d", "0"), put("f", "0")}, of(scan("", "", 64), insert("z", "1")), of(insert("a", "2")), false},
		"a scan and a split":                            {[]int{0}, []api.Op{put("b", "0"), put("d", "0"), put("f", "0"), put("h", "0")}, of(scan("", "", 64), put("q", "1")), of(insert("c", "2"), insert("e", "2"), insert("g", "2")), false},
		"a miss and an insert":                          {[]int{0}, nil, of(get("a"), put("b", "1")), of(get("b"), put("a", "1")), false},
		"a look and a put":                              {[]int{1}, []api.Op{put("a", "0", "x"), put("b", "0", "y")}, of(look("", "", 9), put("c", "1", "z")), of(put("a", "2", "q")), false},
		"a put and a delete":                            {[]int{2}, []api.Op{put("a", "0", "x", "y")}, of(put("a", "1", "y", "x"), get("b")), of(remove("a"), put("b", "1")), false},
		"a delete and its end":                          {[]int{1}, []api.Op{put("a", "0", "x")}, of(remove("a"), look("", "", 5)), of(put("a", "1", "x"), look("", "", 5)), false},
		"two that share nothing":                        {[]int{0}, []api.Op{put("a", "0"), put("b", "0")}, of(get("a"), put("a", "1")), of(get("b"), put("b", "1")), true},
		"own inserts only":                              {[]int{0}, nil, of(get("k"), insert("a", "1"), insert("b", "1"), insert("c", "1"), insert("d", "1"), scan("", "", 9)), of(), true},
		"a layer":                                       {[]int{0}, []api.Op{put("abcdefghij", "0")}, of(get("abcdefghkl"), put("x", "1")), of(put("abcdefghkl", "1")), false},
		"a scan, an own split, and an insert beside it": {[]int{0}, []api.Op{put("b", "0"), put("d", "0"), put("f", "0")}, of(scan("", "", 64), insert("a", "1")), of(insert("e", "2")), false},
		"both put what is missing":                      {[]int{0}, nil, of(put("a", "1")), of(put("a", "2")), false},
	} {
		j := job(x.tables...)
		j.Cells = 2048
		conflicts := 0
		for step := range 2000 {
			d := driver{t, laid(t, j), j}
			is := newTables(j)
			if len(x.first) > 0 {
				d.first(x.first...)
				is.whole(of(x.first...))
			}
			n := d.begin(0, x.one)
			for range step {
				d.m.Step(n)
			}
			at, _ := d.m.At(n)
			k := d.begin(1, x.other)
			for i := 0; i < 500 && d.m.Step(k) == api.OK; i++ {
			}
			one := d.end(n)
			other := d.end(k)
			var l []done
			for _, y := range []done{{x.one, one}, {x.other, other}} {
				switch y.o.Errno {
				case api.OK:
					l = append(l, y)
				case api.ErrConflict:
					conflicts++
				default:
					t.Fatalf("%s: %v", name, y.o.Errno)
				}
			}
			slices.SortFunc(l, byTID)
			for _, y := range l {
				if want := told(api.Outcome{TID: y.o.TID, Results: is.whole(y.t)}); told(y.o) != want {
					t.Fatalf("%s, behind %d steps: %s, want %s", name, step, told(y.o), want)
				}
			}
			if len(l) == 0 || x.never && len(l) < 2 {
				t.Fatalf("%s, behind %d steps: %s, %s", name, step, told(one), told(other))
			}
			is.stands(t, d.m, j)
			if at.Ended {
				break
			}
		}
		if conflicts == 0 && !x.never {
			t.Errorf("%s: there was no conflict", name)
		}
	}
}

// TestBothInTheMidst stops both of two transactions, each of which reads what the other one writes.
func TestBothInTheMidst(t *testing.T) { // P17.4, P17.5
	t.Parallel()
	j := job(0)
	j.Cells = 1024
	one, other := of(get("a"), put("b", "1")), of(get("b"), put("a", "2"))
	both := 0
	for i := 0; i < 60; i++ {
		for k := i % 3; k < 60; k += 3 {
			d := driver{t, laid(t, j), j}
			first := of(put("a", "0"), put("b", "0"))
			d.first(first.Ops...)
			is := newTables(j)
			is.whole(first)
			x, y := d.begin(0, one), d.begin(1, other)
			for range i {
				d.m.Step(x)
			}
			for range k {
				d.m.Step(y)
			}
			for range 400 { // it may wait for the other one
				d.m.Step(x)
			}
			l := []done{{other, d.end(y)}, {one, d.end(x)}}
			slices.SortFunc(l, byTID)
			for _, z := range l {
				if z.o.Errno == api.ErrConflict {
					both++
				} else if want := told(api.Outcome{TID: z.o.TID, Results: is.whole(z.t)}); told(z.o) != want {
					t.Fatalf("%d and %d steps: %s, want %s", i, k, told(z.o), want)
				}
			}
			is.stands(t, d.m, j)
		}
	}
	if both == 0 {
		t.Error("there was no conflict")
	}
}

// TestDeadOnes takes an absent record out of the index while a transaction goes on.
func TestDeadOnes(t *testing.T) { // P17.3
	t.Parallel()
	j := job(1)
	j.Cells = 1024
	dead := 0
	for _, one := range []api.Txn{of(put("a", "1", "x")), of(insert("a", "1", "x"), get("a")), of(get("a"), scan("", "", 5), put("b", "1"))} {
		for i, ended := 0, false; !ended; i++ {
			d := driver{t, laid(t, j), j}
			d.first(put("a", "0", "x"))
			d.first(remove("a"))
			x := d.begin(0, one)
			for range i {
				ended = d.m.Step(x) != api.OK || ended
			}
			d.m.Alone(func(a *tasks.Act) any { // (not, where a border is marked, or locked)
				entry, _ := row.Entry([]byte("x"), []byte("a"))
				for c, k := range map[uint64]string{16: "a", 17: string(entry)} {
					rec, seen := tree.Get(a, c, j.Width, []byte(k))
					if w := a.Load(rec); rec != 0 && tid.Absent(w) && !tid.Locked(w) && tid.Number(w) > 0 && a.Load(seen.Node)&api.NodeLocked == 0 {
						record.Lock(a, rec)
						tree.Remove(a, c, j.Width, []byte(k), rec)
						record.Unlock(a, rec, w|api.WordDead)
						dead++
					}
				}
				return nil
			})
			is := newTables(j)
			if o := d.end(x); o.Errno == api.OK {
				if want := told(api.Outcome{TID: o.TID, Results: is.whole(one)}); told(o) != want {
					t.Fatalf("behind %d steps: %s, want %s", i, told(o), want)
				}
			} else if o.Errno != api.ErrConflict {
				t.Fatalf("behind %d steps: %s", i, told(o))
			}
			is.stands(t, d.m, j)
		}
	}
	if dead == 0 {
		t.Error("none was dead")
	}
}

// TestTold: the outcome is told in each step that comes so far, ahead of its being pushed.
func TestTold(t *testing.T) { // P17.4
	j := job(1)
	for _, x := range []api.Txn{of(put("a", "x", "y"), put("b", "x")), of(get("a")), of()} {
		m := laid(t, j)
		calls := 0
		var o api.Outcome
		n, _ := m.Begin(func(a *tasks.Act) any {
			return told(Run(a, Seats(j)[1], x, func(x api.Outcome) { calls++; o = x }))
		}, nil)
		before, pushed := 0, 0
		for m.Step(n) == api.OK {
			if calls > before+1 || calls < before {
				t.Fatalf("it was told %d times in a step", calls-before)
			}
			if is := m.Pushed(1) + m.Pushed(9); is > pushed {
				if calls != 1 {
					t.Fatalf("it was pushed, and told %d times", calls)
				}
				pushed = is
			}
			if w, _ := m.Arena().Load(api.CellWorker + 1); pushed == 0 && w == 0 && calls > 0 {
				t.Fatal("the worker left ahead of its pushing")
			}
			before = calls
		}
		at, _ := m.At(n)
		if at.Answer != told(o) || pushed != 1 || calls < 2 {
			t.Errorf("%v was told as %v, %d times, and pushed %d times", at.Answer, told(o), calls, pushed)
		}
	}
}

func TestLost(t *testing.T) { // P17.4
	j := job(0)
	m := laid(t, j)
	alone(t, m, func(a *tasks.Act) {
		seats := Seats(j)
		Run(a, seats[0], of(put("a", "x"), put("abcdefghij", "x")), nil)
		if m.Pushed(4) != 0 {
			t.Error("something is lost")
		}
		c, _ := Cell(j, 0, -1)
		rec, _ := tree.Get(a, c, j.Width, []byte("a"))
		old := a.Load(rec + 1)
		Run(a, seats[0], of(put("a", "y")), nil)
		want := []byte{0, 0, 0, 0, 0, 0, 0, 1, 0, 0, 0, 0, 0, 0, byte(old >> 8), byte(old)}
		if l := a.Pull(4); len(l) != 1 || !slices.Equal(l[0], want) {
			t.Errorf("lost are %v, want %v", l, want)
		}
		epoch.Advance(a, 3)
		Run(a, seats[0], of(put("a", "z")), nil) // an elder version has the row
		if l := a.Pull(4); len(l) != 0 {
			t.Errorf("lost are %v", l)
		}
		if w, r := record.At(a, rec, 1); tid.Epoch(w) != 1 || string(r[0]) != "y" {
			t.Errorf("the elder version has %d, %q", w, r)
		}
		x := of(put("abcdefghkl", "x"))
		x.Abort = true
		Run(a, seats[0], x, nil) // the tail is lost, whatever becomes of the transaction
		if l := a.Pull(4); len(l) != 1 || len(l[0]) != 16 {
			t.Errorf("lost are %v", l)
		}
	})
}

// TestFreshOnesStay: who collects by epochs does not take the record of one that goes on.
func TestFreshOnesStay(t *testing.T) { // P17.3, P0.7
	j := job(0)
	m := laid(t, j)
	n, _ := m.Begin(func(a *tasks.Act) any { return told(Run(a, Seats(j)[0], of(put("a", "x")), nil)) }, nil)
	seen := false
	for m.Step(n) == api.OK {
		m.Alone(func(a *tasks.Act) any {
			rec, _ := tree.Get(a, 16, j.Width, []byte("a"))
			if rec == 0 {
				return nil
			}
			seen = true
			epoch.Advance(a, 3)
			if w := a.Load(rec); tid.Absent(w) && tid.Epoch(w) <= epoch.Settle(a, 3) {
				t.Fatalf("the word %d is of an epoch that is over", w)
			}
			return nil
		})
	}
	if at, _ := m.At(n); !seen || !strings.HasPrefix(at.Answer.(string), "0 2.1") {
		t.Errorf("%v", at.Answer)
	}
}

func TestWithoutCells(t *testing.T) { // P17.1, P17.4, P0.5
	j := job(1)
	j.Cells = 1024
	is := newTables(j)
	m := laid(t, j)
	full := 0
	alone(t, m, func(a *tasks.Act) {
		for i := 0; full < 30; i++ {
			key := fmt.Sprint("k", i%45)
			x := of(put(key, "a row that is long", fmt.Sprint("f", i)), get(key))
			free := m.Arena().Free()
			o := Run(a, Seats(j)[0], x, nil)
			switch o.Errno {
			case api.OK:
				is.whole(x)
			case api.ErrFull:
				full++
				if o.TID != (api.TID{}) || o.Writes != nil || len(o.Results) > 2 {
					t.Fatalf("%+v", o)
				}
				if again := Run(a, Seats(j)[0], x, nil); again.Errno != api.ErrFull || m.Arena().Free() > free {
					t.Fatalf("%v; %d cells are free, %d were", again.Errno, m.Arena().Free(), free)
				}
				free = m.Arena().Free()
				if Run(a, Seats(j)[0], x, nil); m.Arena().Free() != free { // nothing more goes
					t.Fatalf("%d cells are free, %d were", m.Arena().Free(), free)
				}
			default:
				t.Fatalf("%v", o.Errno)
			}
		}
	})
	is.stands(t, m, j)
}

// TestOneOrder: whatever steps, committed transactions are in the order of their numbers.
func TestOneOrder(t *testing.T) { // P17.5, P0.1
	t.Parallel()
	commits, conflicts := 0, 0
	for seed := range int64(120) {
		r := rand.New(rand.NewSource(seed))
		j := job([][]int{{0}, {1}, {2}, {1, 0}}[r.Intn(4)]...)
		m, is := laid(t, j), newTables(j)
		var all []done
		for w := range 3 {
			var session []api.Txn
			for range 6 {
				session = append(session, some(r, j, 2+int(seed%8)))
			}
			at := 0
			run := func(x api.Txn) tasks.Task {
				return func(a *tasks.Act) any { return Run(a, Seats(j)[w], x, nil) }
			}
			m.Begin(run(session[0]), func(last any) (tasks.Task, bool) {
				all = append(all, done{session[at], last.(api.Outcome)})
				at++
				if at == len(session) {
					return nil, false
				}
				return run(session[at]), true
			})
		}
		m.Begin(func(a *tasks.Act) any {
			for range 40 {
				epoch.Advance(a, 3)
			}
			return nil
		}, nil)
		for i := 0; len(m.Going()) > 0; i++ {
			for range 1 + r.Intn(1+int(seed%30)) {
				m.Pick(i * 7 / (1 + r.Intn(3)))
			}
			i += r.Intn(3)
			if i > 1000000 {
				t.Fatalf("seed %d: it does not end", seed)
			}
		}
		var order []done
		last := map[api.TID]bool{}
		for _, x := range all {
			switch x.o.Errno {
			case api.OK:
				order = append(order, x)
				commits++
				if last[x.o.TID] || x.t.Abort {
					t.Fatalf("seed %d: %+v", seed, x)
				}
				last[x.o.TID] = true
			case api.ErrConflict:
				conflicts++
			case api.ErrAbort:
				if !x.t.Abort {
					t.Fatalf("seed %d: %+v", seed, x)
				}
			default:
				t.Fatalf("seed %d: %+v", seed, x)
			}
		}
		slices.SortFunc(order, byTID)
		for _, x := range order {
			want := api.Outcome{TID: x.o.TID, Results: is.whole(x.t)}
			if told(x.o) != told(want) {
				t.Fatalf("seed %d: %+v\n%s, want\n%s", seed, x.t, told(x.o), told(want))
			}
		}
		is.stands(t, m, j)
	}
	if commits < 500 || conflicts < 50 {
		t.Errorf("%d commits, %d conflicts", commits, conflicts)
	}
}
