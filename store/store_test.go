package store

import (
	"fmt"
	"math"
	"math/rand"
	"reflect"
	"slices"
	"testing"

	"garner/api"
	"garner/disk"
	"garner/judge"
	"garner/log"
	"garner/model"
)

// small is the job of the chapter's examples.
var small = api.Job{Workers: 1, Loggers: 1, Width: 3, Cells: 4096, Disk: 65536, Every: 1, Tables: []int{0}}

func put(key string, l ...string) api.Op {
	o := api.Op{Kind: api.OpPut, Key: []byte(key)}
	for _, f := range l {
		o.Row = append(o.Row, []byte(f))
	}
	return o
}

func get(key string) api.Op  { return api.Op{Kind: api.OpGet, Key: []byte(key)} }
func of(l ...api.Op) api.Txn { return api.Txn{Ops: l} }
func crash() api.Act         { return api.Act{Kind: api.ActCrash} }
func putAndGet() [][]api.Txn { return [][]api.Txn{{of(put("a", "x")), of(get("a"))}} }
func lasts(s *Store) []api.Kept { // a crash that keeps all
	var l []api.Kept
	for _, name := range s.Disk().Names() {
		l = append(l, api.Kept{Name: name, Loose: math.MaxInt})
	}
	return l
}

func opened(t *testing.T, s *Store) {
	t.Helper()
	for i := 0; s.At().Opening; i++ {
		if pick(t, s, 0); i > 100000 {
			t.Fatal("it does not open")
		}
	}
}

// short is the history, as a text.
func short(s *Store) string {
	l := ""
	for e := range s.Events() {
		switch e.Kind {
		case api.EventCommit:
			l += fmt.Sprintf("commit %d %d.%d", e.Worker, e.TID.Epoch, e.TID.Seq)
			for _, r := range e.Results {
				l += fmt.Sprintf(" %d%s", r.Errno, r.Rows)
			}
		case api.EventAbort:
			l += fmt.Sprintf("abort %d %d", e.Worker, e.Errno)
		case api.EventSnapshot:
			l += fmt.Sprintf("snapshot %d %d %d", e.Worker, e.Epoch, len(e.Results))
		case api.EventDurable:
			l += fmt.Sprintf("durable %d", e.Epoch)
		case api.EventCrash:
			l += "crash"
		case api.EventRecovered:
			l += fmt.Sprintf("recovered %d %s", e.Epoch, e.Tables)
		}
		l += "; "
	}
	return l
}

func TestExamples(t *testing.T) {
	s := over0(t, small, putAndGet())
	if at := s.At(); !reflect.DeepEqual(at, api.StoreAt{Opening: true, Told: []int{0}, Tasks: 1}) {
		t.Errorf("At is %+v", at)
	}
	opened(t, s)
	if at := s.At(); !reflect.DeepEqual(at, api.StoreAt{Generation: 1, Epoch: 1, Told: []int{0}, Tasks: 6}) {
		t.Errorf("At is %+v", at)
	}
	for range 200 {
		pick(t, s, 0)
	}
	const both = "commit 0 1.1 0[]; commit 0 1.2 0[{a [x]}]; "
	if short(s) != both && !s.Ended() {
		t.Errorf("it told %s", short(s))
	}
	l := ""
	n := 0
	for e := range s.Events() { // the worker has ended: the others go on
		if n++; n <= 2 {
			l += fmt.Sprintf("%d.%d ", e.TID.Epoch, e.TID.Seq)
		}
	}
	if l != "1.1 1.2 " || !s.Ended() {
		t.Errorf("it told %s", short(s))
	}

	s = over0(t, small, putAndGet())
	opened(t, s)
	for !s.Ended() {
		pick(t, s, 0)
	}
	if short(s) != both {
		t.Errorf("it told %s", short(s))
	}
	s.Do(crash())
	if short(s) != both+"crash; recovered 0 [[]]; " {
		t.Errorf("it told %s", short(s))
	}

	s = over0(t, small, putAndGet())
	for i := range 2000 {
		pick(t, s, i)
	}
	s.Do(crash())
	var last api.Event
	for e := range s.Events() {
		last = e
	}
	if last.Kind != api.EventRecovered || last.Epoch < 1 || fmt.Sprintf("%s", last.Tables) != "[[{a [x]}]]" {
		t.Errorf("the last event is %+v", last)
	}
	right(t, "the example", s, small)
}

func TestErrors(t *testing.T) { // P24.1
	bad := small
	bad.Width = 2
	long := putAndGet()
	long[0][0].Ops[0].Key = nil
	d, _ := disk.New(65536)
	for i, x := range []struct {
		j api.Job
		l [][]api.Txn
	}{{bad, putAndGet()}, {api.Job{}, nil}, {small, nil}, {small, [][]api.Txn{nil, nil}}, {small, long}, {small, [][]api.Txn{make([]api.Txn, 65)}}} {
		s, e := New(x.j, x.l)
		o, worse := Open(x.j, x.l, d)
		p, worst := Play(x.j, x.l, crash())
		if s != nil || o != nil || p != nil || e != api.ErrArg || worse != api.ErrArg || worst != api.ErrArg {
			t.Errorf("%d: %v, %v, %v", i, e, worse, worst)
		}
	}
	for _, d := range []*disk.Disk{nil, {}} {
		if s, e := Open(small, putAndGet(), d); s != nil || e != api.ErrArg {
			t.Errorf("Open of no disk: %v", e)
		}
	}
	d.Append(api.ManifestName, []byte{0})
	if s, e := Open(small, putAndGet(), d); s != nil || e != api.ErrCorrupt {
		t.Errorf("Open of a corrupt disk: %v", e)
	}
	s := over0(t, small, putAndGet())
	opened(t, s)
	before := fmt.Sprint(s.At(), short(s))
	for i, a := range []api.Act{{}, {Kind: 3}, {Kind: -1}, {Kind: api.ActCrash, Keep: []api.Kept{{Name: "none", Loose: 1}}}, {Kind: api.ActCrash, Keep: []api.Kept{{Name: "manifest", Loose: -1}}}, {Kind: api.ActCrash, Keep: []api.Kept{{Name: "manifest"}, {Name: "manifest"}}}, {Kind: api.ActCrash, Keep: []api.Kept{{Name: "a b"}}}} {
		if e := s.Do(a); e != api.ErrArg || fmt.Sprint(s.At(), short(s)) != before {
			t.Errorf("%d: %v, %+v", i, e, s.At())
		}
	}
	if e := s.Do(api.Act{Kind: api.ActPick, N: math.MinInt, Keep: []api.Kept{{Name: "a b"}}}); e != api.OK {
		t.Errorf("a Keep of a pick is not looked at: %v", e)
	}
	for _, s := range []*Store{nil, {}} {
		tables, is := s.Tables()
		sound, asked := s.Sound()
		if s.Do(api.Act{}) != api.ErrNil || tables != nil || is || sound || asked || s.Disk() != nil || s.Ended() || !reflect.DeepEqual(s.At(), api.StoreAt{}) {
			t.Error("something of nil is not as it should be")
		}
		for range s.Events() {
			t.Error("there is something in nil")
		}
	}
}

func TestPlay(t *testing.T) { // P24.1
	var acts []api.Act
	for i := range 700 {
		acts = append(acts, api.Act{Kind: api.ActPick, N: i * 7})
	}
	acts = append(acts, api.Act{Kind: api.ActCrash, Keep: []api.Kept{{Name: "manifest", Loose: 3}}})
	one, e := Play(small, putAndGet(), acts...)
	if e != api.OK {
		t.Fatalf("Play: %v", e)
	}
	two := over0(t, small, putAndGet())
	for _, a := range acts {
		two.Do(a)
	}
	if short(one) != short(two) || !reflect.DeepEqual(one.At(), two.At()) || !disk.Same(one.Disk(), two.Disk()) {
		t.Error("Play does something else than Do")
	}
	s, e := Play(small, putAndGet(), acts[0], acts[1], api.Act{}, acts[2])
	three, _ := Play(small, putAndGet(), acts[:2]...)
	if s == nil || e != api.ErrArg || !disk.Same(s.Disk(), three.Disk()) {
		t.Errorf("Play: %v", e)
	}
}

func TestLooking(t *testing.T) { // P24.2
	l := putAndGet()
	s := over0(t, small, l)
	if x, ok := s.Tables(); x != nil || ok {
		t.Error("while it opens there are tables")
	}
	if is, asked := s.Sound(); is || asked {
		t.Error("while it opens it is asked")
	}
	l[0][0].Ops[0].Key[0] = 'z' // it has its own
	opened(t, s)
	asked, tables := 0, 0
	for i := range 3000 {
		if pick(t, s, i); i%3 > 0 {
			continue
		}
		if x, ok := s.Tables(); ok {
			if tables++; fmt.Sprintf("%s", x) != "[[]]" && fmt.Sprintf("%s", x) != "[[{a [x]}]]" {
				t.Fatalf("there is %s", x)
			}
		}
		is, ok := s.Sound()
		if ok {
			asked++
		}
		if ok && !is {
			t.Fatal("it is not sound")
		}
	}
	if asked < 800 || tables < 800 || asked == 1000 {
		t.Errorf("it was asked %d times, there were tables %d times", asked, tables)
	}
	events := s.Events()
	n := len(slices.Collect(events))
	for i := range 3000 {
		pick(t, s, i)
	}
	for range 2 {
		k := 0
		for e := range events { // as it is when it is called
			if k++; e.Kind == api.EventCommit {
				e.Txn.Ops[0].Key[0] = 'z'
			}
		}
		if k != n || len(slices.Collect(s.Events())) <= n {
			t.Errorf("there are %d events, %d", k, n)
		}
	}
	for range events {
		break
	}
	right(t, "looking", s, small)
	d := s.Disk()
	d.Append("x", nil)
	if slices.Contains(s.Disk().Names(), "x") {
		t.Error("the disk is no copy")
	}
	s.At().Told[0] = 99
	if s.At().Told[0] != 2 {
		t.Error("what was told is shared")
	}
}

// TestCutOff: what a crash cuts off is lost; what had not begun is done behind it.
func TestCutOff(t *testing.T) {
	l := [][]api.Txn{{of(put("a", "x"), put("b", "x")), of(get("a")), {Ops: []api.Op{get("a")}, Snapshot: true}, of(get("b"))}}
	steps := 0
	for ; ; steps++ {
		s := over0(t, small, l)
		opened(t, s)
		for range steps {
			pick(t, s, 0)
		}
		told, done := s.At().Told[0], s.Ended()
		at, _ := s.machine.At(firstWorker)
		begun := at.Done > 0 // has it done a step of the present one?
		if e := s.Do(api.Act{Kind: api.ActCrash, Keep: lasts(s)}); e != api.OK {
			t.Fatalf("a crash: %v", e)
		}
		is := s.At().Told[0]
		if is != told && is != told+1 || is == told+1 && !begun {
			t.Fatalf("behind %d steps %d were told, behind the crash %d", steps, told, is)
		}
		fair(t, fmt.Sprint(steps, " steps"), s, small)
		commits := 0
		for e := range s.Events() {
			if e.Kind == api.EventCommit || e.Kind == api.EventSnapshot {
				commits++
			}
		}
		if lost := is - told; commits != len(l[0])-lost {
			t.Fatalf("behind %d steps: %d were told of %d, of which %d were lost", steps, commits, len(l[0]), lost)
		}
		right(t, fmt.Sprint(steps, " steps"), s, small)
		if done {
			break
		}
	}
	if steps < 60 {
		t.Errorf("all was done in %d steps", steps)
	}
}

func TestOpen(t *testing.T) { // P24.1
	r := rand.New(rand.NewSource(1))
	j := small
	j.Tables = []int{1, 0}
	var session []api.Txn
	for range 20 {
		session = append(session, someTxn(r, j))
	}
	s := over0(t, j, [][]api.Txn{session})
	fair(t, "the first one", s, j)
	for i := range 2000 {
		pick(t, s, i)
	}
	want, _ := s.Tables()
	d := s.Disk()
	again, e := Open(j, [][]api.Txn{{of(get("a"))}}, d)
	if e != api.OK {
		t.Fatalf("Open: %v", e)
	}
	var l []api.Event
	for e := range again.Events() {
		l = append(l, e)
	}
	if len(l) != 2 || l[0].Kind != api.EventCrash || l[1].Kind != api.EventRecovered || !slices.EqualFunc(l[1].Tables, want, model.SamePairs) {
		t.Errorf("it told %s", short(again))
	}
	if at := again.At(); !at.Opening || at.Epoch != 0 {
		t.Errorf("At is %+v", at)
	}
	opened(t, again)
	if got, ok := again.Tables(); !ok || !slices.EqualFunc(got, want, model.SamePairs) {
		t.Errorf("there is %v, want %v", got, want)
	}
	if is, asked := again.Sound(); !is || !asked {
		t.Error("it is not sound")
	}
	if at := again.At(); at.Generation != 2 || at.Epoch <= l[1].Epoch || at.Durable != at.Epoch-1 {
		t.Errorf("At is %+v", at)
	}
	if !disk.Same(d, s.Disk()) {
		t.Error("the disk is not a copy")
	}
}

// laid is a disk of a manifest, and a log with so many rows of an epoch.
func laid(t *testing.T, room, rows int, epoch int64) *disk.Disk {
	t.Helper()
	d, _ := disk.New(room)
	m, e := log.PutManifest(api.Manifest{Generation: 1, Floor: epoch, Logs: []api.LogPart{{Name: "l", To: epoch}}})
	d.Append(api.ManifestName, m)
	var b []byte
	for i := range rows {
		x, _ := log.PutTxn(api.Logged{TID: api.TID{Epoch: epoch, Seq: int64(i + 1)}, Writes: []api.Write{{Key: []byte(fmt.Sprint("key", i)), Row: api.Row{[]byte("a row that is long")}}}})
		b = append(b, x...)
	}
	if d.Append("l", b) != api.OK || e != api.OK {
		t.Fatal("there is no room")
	}
	d.Sync("l")
	d.Sync(api.ManifestName)
	return d
}

// TestAboveAll: a new generation begins above all that was ever seen, and keeps no cells that nobody finds.
func TestAboveAll(t *testing.T) {
	d, _ := disk.New(small.Disk)
	m, _ := log.PutManifest(api.Manifest{Generation: 3, Floor: 5, Logs: []api.LogPart{{Name: "l", To: 5}}})
	d.Append(api.ManifestName, m)
	for i, x := range []struct {
		epoch int64
		key   string
	}{{5, "abcdefghij"}, {4, "abcdefghkl"}, {9, "lost"}} {
		b, _ := log.PutTxn(api.Logged{TID: api.TID{Epoch: x.epoch, Seq: int64(i + 1)}, Writes: []api.Write{{Key: []byte(x.key), Row: api.Row{[]byte("x")}}}})
		d.Append("l", b)
	}
	s, e := Open(small, [][]api.Txn{{of(put("a", "x"))}}, d)
	if e != api.OK || s.At().Generation != 3 {
		t.Fatalf("Open: %v, %+v", e, s.At())
	}
	opened(t, s)
	if at := s.At(); at.Generation != 4 || at.Epoch != 10 || at.Durable != 9 {
		t.Errorf("At is %+v", at)
	}
	pieces := 0 // a border, a layer's, and of each of two keys a record and a row
	for range s.machine.Arena().All() {
		pieces++
	}
	if pieces != 6 {
		t.Errorf("there are %d pieces", pieces)
	}
	for !s.Ended() {
		pick(t, s, 0)
	}
	if short(s) != "crash; recovered 5 [[{abcdefghij [x]} {abcdefghkl [x]}]]; commit 0 10.1 0[]; " {
		t.Errorf("it told %s", short(s))
	}
}

func TestStuck(t *testing.T) {
	j := small
	j.Cells = 1024
	for _, x := range []struct {
		rows  int
		epoch int64
		stuck bool
	}{{10, 5, false}, {200, 5, true}, {1, api.MaxEpoch, true}, {1, api.MaxEpoch - 1, false}} {
		s, e := Open(j, putAndGet(), laid(t, j.Disk, x.rows, x.epoch))
		if e != api.OK {
			t.Fatalf("Open: %v", e)
		}
		opened(t, s)
		if s.At().Stuck != x.stuck {
			t.Fatalf("%+v: At is %+v", x, s.At())
		}
		if !x.stuck {
			continue
		}
		before := fmt.Sprint(s.At(), short(s))
		for i := range 500 {
			pick(t, s, i)
		}
		_, ok := s.Tables()
		if _, asked := s.Sound(); ok || asked || fmt.Sprint(s.At(), short(s)) != before || s.Ended() {
			t.Errorf("what is stuck goes on: %+v", s.At())
		}
		if e := s.Do(crash()); e != api.OK || !s.At().Opening || s.At().Stuck {
			t.Errorf("a crash: %v, %+v", e, s.At())
		}
	}
}

// TestRefused: where the disk refuses the new manifest nothing becomes durable; all else goes on.
func TestRefused(t *testing.T) {
	j := small
	d := laid(t, 2048, 10, 5)
	d.Append("l", make([]byte, 2048-d.Used()))
	s, e := Open(j, putAndGet(), d)
	if e != api.OK {
		t.Fatalf("Open: %v", e)
	}
	for i := range 20000 {
		pick(t, s, i)
	}
	if at := s.At(); at.Opening || at.Stuck || !s.Ended() || at.Durable != 5 || at.Epoch < 50 || !disk.Same(d, s.Disk()) {
		t.Errorf("At is %+v, the files %v", at, s.Disk().Names())
	}
	if x, ok := s.Tables(); ok && len(x[0]) != 11 {
		t.Errorf("there are %d rows", len(x[0]))
	}
	if e := s.Do(crash()); e != api.OK {
		t.Errorf("a crash: %v", e)
	}
	var last api.Event
	for e := range s.Events() {
		last = e
	}
	if last.Epoch != 5 || len(last.Tables[0]) != 10 {
		t.Errorf("the last event is %+v", last)
	}
}

// TestAlone: transactions that share nothing with others commit, whoever goes on beside them.
func TestAlone(t *testing.T) { // P0.7
	for seed := range int64(30) {
		r := rand.New(rand.NewSource(seed))
		j := api.Job{Workers: 1 + r.Intn(4), Loggers: 1, Width: 3 + r.Intn(4), Cells: 16384, Disk: 65536, Every: 1 + r.Intn(3)}
		var l [][]api.Txn
		for w := range j.Workers {
			j.Tables = append(j.Tables, r.Intn(2))
			var session []api.Txn
			for i := range 12 {
				x := of(put(fmt.Sprint("key", r.Intn(9)), fmt.Sprint(i)), get(fmt.Sprint("key", r.Intn(9))), api.Op{Kind: api.OpScan, Most: 20})
				for k := range x.Ops {
					x.Ops[k].Table = w
				}
				session = append(session, x)
			}
			l = append(l, session)
		}
		s := over0(t, j, l)
		for i := 0; !s.Ended(); i++ {
			if pick(t, s, r.Intn(64)); i > 100000 {
				t.Fatalf("seed %d: it does not end", seed)
			}
		}
		for e := range s.Events() {
			if e.Kind == api.EventAbort {
				t.Fatalf("seed %d: %s", seed, short(s))
			}
		}
		fair(t, fmt.Sprint("seed ", seed), s, j)
		right(t, fmt.Sprint("seed ", seed), s, j)
	}
}

// TestTablesAreTheJudges: what stands at the end is what the committed transactions make.
func TestTablesAreTheJudges(t *testing.T) { // P0.1
	for seed := range int64(20) {
		r := rand.New(rand.NewSource(seed))
		j := someJob(r)
		s := over0(t, j, someSessions(r, j, 12))
		for i := 0; !s.Ended() || s.At().Opening; i++ {
			pick(t, s, r.Intn(64))
		}
		g, _ := judge.New(j)
		for e := range s.Events() {
			if flaw, e := g.Add(e); e != api.OK {
				t.Fatalf("seed %d: %d", seed, flaw)
			}
		}
		want, e := g.Tables()
		got, ok := s.Tables()
		for i := 0; !ok; i++ {
			pick(t, s, i)
			got, ok = s.Tables()
		}
		if e != api.OK || !slices.EqualFunc(got, want, model.SamePairs) {
			t.Fatalf("seed %d: %v; there is %v, want %v", seed, e, got, want)
		}
	}
}
