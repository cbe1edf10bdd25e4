package judge

import (
	"fmt"
	"math/rand"
	"slices"
	"strings"
	"testing"

	"garner/api"
	"garner/model"
)

var job = api.Job{Workers: 2, Loggers: 1, Width: 3, Cells: 1024, Disk: 1024, Every: 1, Tables: []int{1}}

func fields(l ...string) api.Row {
	var r api.Row
	for _, f := range l {
		r = append(r, []byte(f))
	}
	return r
}

func put(key string, l ...string) api.Op {
	return api.Op{Kind: api.OpPut, Key: []byte(key), Row: fields(l...)}
}
func get(key string) api.Op { return api.Op{Kind: api.OpGet, Key: []byte(key)} }
func pair(key string, l ...string) api.Pair {
	return api.Pair{Key: []byte(key), Row: fields(l...)}
}

// ok is what a put answers; is what a get does.
func ok() api.Result                        { return api.Result{} }
func is(key string, l ...string) api.Result { return api.Result{Rows: []api.Pair{pair(key, l...)}} }
func none() api.Result                      { return api.Result{Errno: api.ErrNone} }

func commit(w int, e, s int64, o api.Op, r api.Result) api.Event {
	return api.Event{Kind: api.EventCommit, Worker: w, TID: api.TID{Epoch: e, Seq: s}, Txn: api.Txn{Ops: []api.Op{o}}, Results: []api.Result{r}}
}
func snapshot(w int, e int64, o api.Op, r api.Result) api.Event {
	return api.Event{Kind: api.EventSnapshot, Worker: w, Epoch: e, Txn: api.Txn{Ops: []api.Op{o}, Snapshot: true}, Results: []api.Result{r}}
}
func abort(w int, e api.Errno) api.Event {
	return api.Event{Kind: api.EventAbort, Worker: w, Errno: e, Txn: api.Txn{Ops: []api.Op{put("q", "q")}}}
}
func durable(e int64) api.Event { return api.Event{Kind: api.EventDurable, Epoch: e} }
func crash() api.Event          { return api.Event{Kind: api.EventCrash} }
func recovered(e int64, l ...api.Pair) api.Event {
	return api.Event{Kind: api.EventRecovered, Epoch: e, Tables: [][]api.Pair{l}}
}

func check(t *testing.T, what string, place int, flaw api.Flaw, l ...api.Event) {
	t.Helper()
	want := api.OK
	if flaw != 0 {
		want = api.ErrState
	}
	if p, f, e := Check(job, slices.Values(l)); p != place || f != flaw || e != want {
		t.Errorf("%s: Check is %d, %d, %v; want %d, %d", what, p, f, e, place, flaw)
	}
}

func TestExamples(t *testing.T) {
	check(t, "in order", 0, 0, commit(0, 1, 1, put("a", "x"), ok()), commit(1, 1, 2, get("a"), is("a", "x")))
	check(t, "told the other way round", 0, 0, commit(1, 1, 2, get("a"), is("a", "x")), commit(0, 1, 1, put("a", "x"), ok()))
	check(t, "ahead of it", 1, api.FlawResults, commit(0, 1, 2, put("a", "x"), ok()), commit(1, 1, 1, get("a"), is("a", "x")))
	check(t, "a worker's", 1, api.FlawOrder, commit(0, 2, 1, put("a", "x"), ok()), commit(0, 1, 2, put("b", "y"), ok()))
	check(t, "behind a crash", 4, api.FlawOrder, commit(0, 1, 1, put("a", "x"), ok()), durable(1), crash(), recovered(1, pair("a", "x")), commit(0, 1, 2, put("b", "y"), ok()))
	check(t, "lost", 3, api.FlawTables, commit(0, 1, 1, put("a", "x"), ok()), durable(1), crash(), recovered(1))
}

func TestForm(t *testing.T) { // P23.1
	good := map[string]api.Event{"commit": commit(1, 1, 1, get("a"), none()), "abort": abort(1, api.ErrConflict), "snapshot": snapshot(1, 0, get("a"), none()), "durable": durable(1), "crash": crash()}
	names := map[string]string{"commit": "worker tid txn results", "abort": "worker txn errno, an abort", "snapshot": "worker epoch txn results, a snapshot", "durable": "epoch", "crash": "", "recovered": "epoch tables"}
	changes := map[string]func(e *api.Event){
		"worker": func(e *api.Event) { e.Worker = 1 }, "tid": func(e *api.Event) { e.TID = api.TID{Epoch: 1, Seq: 1} }, "epoch": func(e *api.Event) { e.Epoch = 1 }, "errno": func(e *api.Event) { e.Errno = api.ErrAbort },
		"txn": func(e *api.Event) { e.Txn.Ops = []api.Op{get("a")} }, "results": func(e *api.Event) { e.Results = []api.Result{none()} }, "tables": func(e *api.Event) { e.Tables = [][]api.Pair{nil} },
		"a snapshot": func(e *api.Event) { e.Txn.Snapshot = true }, "an abort": func(e *api.Event) { e.Txn.Abort = true },
	}
	flawed := func(what string, e api.Event, behind ...api.Event) {
		t.Helper()
		check(t, what, len(behind), api.FlawForm, append(behind, e)...)
	}
	for kind, e := range good {
		check(t, kind, 0, 0, e)
		for what, change := range changes {
			x := e
			if change(&x); !strings.Contains(names[kind], what) {
				flawed(kind+" with "+what, x)
			}
		}
	}
	for what, change := range changes {
		x := recovered(1)
		if change(&x); !strings.Contains(names["recovered"], what) {
			flawed("recovered with "+what, x, crash())
		}
	}
	for i, e := range []api.Event{{}, {Kind: 7}, {Kind: -1}, commit(2, 1, 1, get("a"), none()), commit(-1, 1, 1, get("a"), none()), commit(0, 0, 1, get("a"), none()), commit(0, 1, 0, get("a"), none()), commit(0, 1<<24, 1, get("a"), none()), commit(0, 1, 1<<31, get("a"), none()),
		commit(0, 1, 1, get(""), none()), {Kind: api.EventCommit, TID: api.TID{Epoch: 1, Seq: 1}, Results: []api.Result{{}}}, {Kind: api.EventCommit, TID: api.TID{Epoch: 1, Seq: 1}, Txn: api.Txn{Ops: []api.Op{get("a")}}},
		abort(0, api.OK), abort(0, api.ErrNone), abort(0, api.ErrState), abort(0, 99), abort(2, api.ErrAbort), snapshot(0, -1, get("a"), none()), snapshot(0, 1<<24, get("a"), none()), snapshot(0, 0, put("a", "x"), ok()), snapshot(2, 0, get("a"), none()),
		{Kind: api.EventSnapshot, Txn: api.Txn{Ops: []api.Op{get("a")}}, Results: []api.Result{none()}}, {Kind: api.EventSnapshot, Txn: api.Txn{Snapshot: true}, Results: []api.Result{none()}}, durable(-1), durable(1 << 24)} {
		flawed(fmt.Sprint("event ", i), e)
	}
	for i, e := range []api.Event{{Kind: api.EventRecovered}, {Kind: api.EventRecovered, Tables: make([][]api.Pair, 2)}, recovered(-1), recovered(1 << 24), recovered(0, pair("b", "x"), pair("a", "x")), recovered(0, pair("a", "x"), pair("a", "x")), recovered(0, pair("", "x")), recovered(0, pair("a"))} {
		flawed(fmt.Sprint("recovered ", i), e, crash())
	}
	for _, errno := range []api.Errno{api.ErrAbort, api.ErrConflict, api.ErrLong, api.ErrFull} {
		x := abort(0, errno)
		check(t, "an abort", 0, 0, x)
		x.Txn.Abort = true
		check(t, "an abort", 0, 0, x)
	}
	check(t, "no calls", 0, 0, api.Event{Kind: api.EventCommit, TID: api.TID{Epoch: 1, Seq: 1}, Results: []api.Result{}, Tables: [][]api.Pair{}})
}

func TestPlaceAndOrder(t *testing.T) { // P23.1
	a, b := commit(0, 3, 1, put("a", "x"), ok()), commit(1, 3, 2, put("b", "y"), ok())
	check(t, "recovered without a crash", 0, api.FlawPlace, recovered(0))
	check(t, "a commit behind a crash", 1, api.FlawPlace, crash(), a)
	check(t, "a crash behind a crash", 1, api.FlawPlace, crash(), crash())
	check(t, "form is ahead of place", 1, api.FlawForm, crash(), durable(-1))
	check(t, "two generations", 0, 0, a, crash(), recovered(2), b, crash(), recovered(3, pair("b", "y")))
	check(t, "one number twice", 1, api.FlawOrder, a, commit(1, 3, 1, put("b", "y"), ok()))
	check(t, "one number twice, in two generations", 0, 0, a, crash(), recovered(2), a)
	check(t, "a worker's number again", 2, api.FlawOrder, a, b, commit(1, 2, 9, get("a"), none()))
	check(t, "other workers", 0, 0, b, a)
	check(t, "behind what is durable", 2, api.FlawOrder, a, durable(3), b)
	check(t, "above what is durable", 0, 0, a, durable(2), b)
	check(t, "the base's epoch", 2, api.FlawOrder, crash(), recovered(3), a)
	check(t, "snapshots fall", 1, api.FlawOrder, snapshot(0, 2, get("a"), none()), snapshot(0, 1, get("a"), none()))
	check(t, "of two workers", 0, 0, snapshot(0, 2, get("a"), none()), snapshot(1, 1, get("a"), none()), snapshot(0, 2, get("a"), none()))
	check(t, "below the base", 2, api.FlawOrder, crash(), recovered(3), snapshot(0, 2, get("a"), none()))
	check(t, "at the base", 0, 0, crash(), recovered(3), snapshot(0, 3, get("a"), none()))
	check(t, "behind a crash they may fall", 0, 0, snapshot(0, 5, get("a"), none()), crash(), recovered(3), snapshot(0, 3, get("a"), none()))
	check(t, "durable rises", 1, api.FlawDurable, durable(2), durable(2))
	check(t, "durable falls", 1, api.FlawDurable, durable(2), durable(1))
	check(t, "durable 0", 0, api.FlawDurable, durable(0))
	check(t, "durable at the base", 2, api.FlawDurable, crash(), recovered(3), durable(3))
	check(t, "durable above the base", 0, 0, durable(9), crash(), recovered(9), durable(10))
	check(t, "what was durable is lost", 2, api.FlawLost, durable(4), crash(), recovered(3))
	check(t, "what the base had is lost", 3, api.FlawLost, crash(), recovered(3), crash(), recovered(2))
	check(t, "lost is ahead of tables", 3, api.FlawLost, a, durable(3), crash(), recovered(2, pair("z", "z")))
}

func TestHeld(t *testing.T) { // P23.1, P23.2
	a, b, c := commit(0, 1, 1, put("a", "x"), ok()), commit(1, 2, 2, put("a", "y"), ok()), commit(0, 3, 3, put("b", "z"), ok())
	check(t, "snapshots", 0, 0, a, b, c, snapshot(0, 1, get("a"), is("a", "x")), snapshot(0, 2, get("a"), is("a", "y")), snapshot(1, 0, get("a"), none()))
	check(t, "a snapshot's reading", 2, api.FlawReads, a, b, snapshot(0, 1, get("a"), is("a", "y")))
	check(t, "the first one, as they were told", 2, api.FlawReads, a, b, snapshot(0, 2, get("a"), none()), snapshot(1, 1, get("a"), none()))
	check(t, "results are ahead", 1, api.FlawResults, a, commit(1, 2, 2, get("a"), none()), snapshot(0, 1, get("a"), none()))
	check(t, "the first one by numbers", 2, api.FlawResults, commit(1, 2, 9, get("a"), is("a", "q")), commit(0, 1, 1, put("a", "x"), ok()), commit(0, 1, 2, get("a"), none()))
	check(t, "what a crash takes does not count", 0, 0, a, b, commit(0, 3, 3, get("a"), none()), crash(), recovered(2, pair("a", "y")))
	check(t, "what it leaves does", 3, api.FlawResults, a, commit(0, 2, 3, get("a"), none()), crash(), recovered(2, pair("a", "x")))
	check(t, "a snapshot that it leaves", 3, api.FlawReads, a, snapshot(0, 1, get("a"), none()), crash(), recovered(1, pair("a", "x")))
	check(t, "a snapshot that it takes", 0, 0, a, snapshot(0, 2, get("a"), none()), crash(), recovered(1, pair("a", "x")))
	check(t, "tables", 3, api.FlawTables, a, b, crash(), recovered(1, pair("a", "y")))
	check(t, "more than was durable", 0, 0, a, b, c, durable(1), crash(), recovered(2, pair("a", "y")))
	check(t, "a base", 0, 0, commit(0, 1, 1, put("k", "v"), ok()), crash(), recovered(4, pair("k", "v")), commit(0, 5, 1, get("k"), is("k", "v")), snapshot(1, 4, get("k"), is("k", "v")))
	check(t, "a base that nobody wrote", 1, api.FlawTables, crash(), recovered(4, pair("k", "v")))
	check(t, "behind a crash: what was durable counts", 0, 0, a, durable(1), commit(0, 2, 3, get("a"), none()), crash())
	check(t, "behind a crash: else the base's", 0, 0, commit(0, 2, 3, get("a"), is("a", "q")), crash())
	check(t, "behind a crash", 0, api.FlawResults, commit(0, 1, 1, get("a"), is("a", "q")), durable(1), crash())
	check(t, "aborts do nothing", 0, 0, abort(0, api.ErrAbort), commit(0, 1, 1, get("q"), none()))
}

func TestStepByStep(t *testing.T) { // P23.1 to P23.3
	g, e := New(job)
	if e != api.OK || g.Len() != 0 || g.Generations() != 1 {
		t.Fatalf("New: %v", e)
	}
	add := func(e api.Event, flaw api.Flaw) {
		t.Helper()
		want := api.OK
		if flaw != 0 {
			want = api.ErrState
		}
		if f, e := g.Add(e); f != flaw || e != want {
			t.Errorf("Add is %d, %v; want %d", f, e, flaw)
		}
	}
	tables := func(want string) {
		t.Helper()
		if l, e := g.Tables(); fmt.Sprintf("%s", l) != want || e != api.OK {
			t.Errorf("Tables are %s, %v; want %s", l, e, want)
		}
	}
	add(commit(0, 1, 1, put("a", "x"), ok()), 0)
	add(commit(0, 1, 1, put("a", "x"), ok()), api.FlawOrder) // the history is as it was
	add(commit(1, 2, 2, put("b", "y"), ok()), 0)
	tables("[[{a [x]} {b [y]}]]")
	add(durable(1), 0)
	c := g.Copy()
	add(commit(1, 3, 3, get("a"), none()), 0)
	if p, f, e := g.End(); p != 3 || f != api.FlawResults || e != api.ErrState {
		t.Errorf("End is %d, %d, %v", p, f, e)
	}
	if l, e := g.Tables(); l != nil || e != api.ErrState {
		t.Errorf("Tables are %v, %v", l, e)
	}
	if p, f, e := c.End(); p != 0 || f != 0 || e != api.OK || c.Len() != 3 || g.Len() != 4 {
		t.Errorf("End of the copy is %d, %d, %v", p, f, e)
	}
	add(crash(), 0)
	tables("[[{a [x]}]]") // what was durable
	add(recovered(3, pair("a", "x"), pair("b", "y")), api.FlawResults)
	add(recovered(2, pair("a", "x")), api.FlawTables)
	add(recovered(2, pair("a", "x"), pair("b", "y")), 0)
	tables("[[{a [x]} {b [y]}]]")
	if g.Len() != 6 || g.Generations() != 2 || c.Generations() != 1 {
		t.Errorf("Len %d, Generations %d", g.Len(), g.Generations())
	}
	if _, e := c.Add(commit(0, 2, 5, get("b"), is("b", "y"))); e != api.OK {
		t.Errorf("Add to the copy: %v", e)
	}
	src := commit(0, 3, 9, put("k", "v"), ok())
	add(src, 0)
	src.Txn.Ops[0].Key[0], src.Txn.Ops[0].Row[0][0] = 'z', 'z'
	tables("[[{a [x]} {b [y]} {k [v]}]]")
}

func TestNil(t *testing.T) {
	for _, g := range []*Judge{nil, {}} {
		f, e1 := g.Add(crash())
		p, f2, e2 := g.End()
		l, e3 := g.Tables()
		if f != 0 || e1 != api.ErrNil || p != 0 || f2 != 0 || e2 != api.ErrNil || l != nil || e3 != api.ErrNil || g.Len() != 0 || g.Generations() != 0 || g.Copy() != nil {
			t.Error("something of nil is not as it should be")
		}
	}
	if g, e := New(api.Job{}); g != nil || e != api.ErrArg {
		t.Errorf("New is %v, %v", g, e)
	}
	if p, f, e := Check(api.Job{}, nil); p != 0 || f != 0 || e != api.ErrArg {
		t.Errorf("Check is %d, %d, %v", p, f, e)
	}
	if p, f, e := Check(job, nil); p != 0 || f != 0 || e != api.OK {
		t.Errorf("Check is %d, %d, %v", p, f, e)
	}
	for range Wrote(job, nil) {
		t.Error("nobody wrote something")
	}
	for range Wrote(api.Job{}, slices.Values([]api.Event{commit(0, 1, 1, put("a", "x"), ok())})) {
		t.Error("in no job somebody wrote something")
	}
}

func TestWrote(t *testing.T) { // P23.3
	wrote := func(l ...api.Event) string {
		s := ""
		all := Wrote(job, slices.Values(l))
		for range 2 {
			s = ""
			for x := range all {
				s += fmt.Sprintf("%d.%d", x.TID.Epoch, x.TID.Seq)
				for _, w := range x.Writes {
					s += fmt.Sprintf(" %s=%s", w.Key, w.Row)
				}
				s += ";"
			}
		}
		for range all {
			break
		}
		return s
	}
	twice := commit(1, 2, 2, put("b", "y"), ok())
	twice.Txn.Ops = append(twice.Txn.Ops, api.Op{Kind: api.OpDelete, Key: []byte("a")}, api.Op{Kind: api.OpInsert, Key: []byte("b"), Row: fields("no")})
	twice.Results = append(twice.Results, ok(), api.Result{Errno: api.ErrThere})
	a := commit(0, 1, 1, put("a", "x"), ok())
	for i, x := range []struct {
		l    []api.Event
		want string
	}{
		{[]api.Event{twice, a, commit(0, 3, 3, get("q"), none())}, "1.1 a=[x];2.2 a=[] b=[y];"},
		{[]api.Event{a, crash()}, ""},
		{[]api.Event{a, durable(1), commit(0, 2, 4, put("z", "z"), ok()), crash()}, "1.1 a=[x];"},
		{[]api.Event{a, crash(), recovered(1, pair("a", "x")), commit(0, 2, 4, put("z", "z"), ok())}, "2.4 z=[z];"},
		{[]api.Event{a, commit(0, 2, 4, get("z"), ok())}, ""},
		{[]api.Event{a, durable(-1)}, ""},
	} {
		if got := wrote(x.l...); got != x.want {
			t.Errorf("%d: %s, want %s", i, got, x.want)
		}
	}
}

// TestWhatTheModelMakes: a history that the model made goes on; one with another answer does not.
func TestWhatTheModelMakes(t *testing.T) { // P23.4, P0.1 to P0.3
	for seed := range int64(80) {
		r := rand.New(rand.NewSource(seed))
		m, _ := model.New(job)
		var l []api.Event
		epoch, seq, last := int64(1), int64(0), int64(0)
		ends := []*model.Model{m.Copy()} // of each epoch
		for range 60 {
			x := api.Txn{}
			for range 1 + r.Intn(3) {
				k := string(rune('a' + r.Intn(4)))
				x.Ops = append(x.Ops, []api.Op{get(k), put(k, fmt.Sprint(r.Intn(9)), "f"), {Kind: api.OpDelete, Key: []byte(k)}, {Kind: api.OpInsert, Key: []byte(k), Row: fields("i")}, {Kind: api.OpScan, Most: 3}, {Kind: api.OpLook, Most: 2}}[r.Intn(6)])
			}
			switch n := r.Intn(12); {
			case n == 0:
				x.Ops = x.Ops[:0]
				x.Ops = append(x.Ops, get("a"), api.Op{Kind: api.OpScan, Most: 9})
				x.Snapshot = true
				e := last + int64(r.Intn(len(ends)-int(last)))
				results, _ := ends[e].Try(x)
				l = append(l, api.Event{Kind: api.EventSnapshot, Epoch: e, Txn: x, Results: results})
				last = e
			case n == 1:
				ends = append(ends, m.Copy())
				epoch++
			case n == 2 && epoch > 1:
				l = append(l, durable(epoch-1), crash(), recovered(epoch-1, ends[epoch-1].Tables()[0]...))
				m = ends[epoch-1].Copy()
				ends = append(ends[:epoch], m.Copy())
				epoch++
				last = epoch - 1
				ends = append(ends, m.Copy())[:epoch]
			default:
				seq++
				results, _ := m.Do(x)
				l = append(l, api.Event{Kind: api.EventCommit, Worker: r.Intn(2), TID: api.TID{Epoch: epoch, Seq: seq}, Txn: x, Results: results})
			}
		}
		if p, f, e := Check(job, slices.Values(l)); e != api.OK {
			t.Fatalf("seed %d: %d, %d, %v: %+v", seed, p, f, e, l[p])
		}
		for range 10 { // another answer
			i := r.Intn(len(l))
			if len(l[i].Results) == 0 {
				continue
			}
			c := slices.Clone(l)
			c[i].Results = slices.Clone(c[i].Results)
			x := &c[i].Results[r.Intn(len(c[i].Results))]
			x.Rows = append(slices.Clone(x.Rows), pair("zz", "other"))
			lost := slices.IndexFunc(c[i:], func(e api.Event) bool { return e.Kind == api.EventRecovered })
			if lost >= 0 && (c[i].TID.Epoch > c[i+lost].Epoch || c[i].Epoch > c[i+lost].Epoch) {
				continue
			}
			if _, f, e := Check(job, slices.Values(c)); e != api.ErrState || f != api.FlawResults && f != api.FlawReads {
				t.Fatalf("seed %d: with another answer at %d: %d, %v", seed, i, f, e)
			}
		}
	}
}
