package console

import (
	"fmt"
	"math/rand"
	"slices"
	"strings"
	"testing"

	"garner/api"
	"garner/disk"
	"garner/script"
	"garner/store"
)

// talk says lines, in turn; what is answered to each is in one line, by ' | '.
func talk(t *testing.T, c *Console, l ...[2]string) {
	t.Helper()
	for _, x := range l {
		if got := strings.Join(c.Say(x[0]), " | "); got != x[1] {
			t.Errorf("%q: %q, want %q", x[0], got, x[1])
		}
	}
}

func TestExamples(t *testing.T) {
	c := New()
	talk(t, c, [][2]string{{"at", "error 6"}, {"start", "error 9"}, {"job 1 1 3 4096 4096 1", "ok"}, {"worker", "error 2"}, {"table 0", "ok"}, {"pick 0", "error 6"}, {"worker", "ok"}, {"get 0 a", "error 2"}, {"txn", "ok"}, {"get 1 a", "error 2"},
		{"put 0 a x", "ok"}, {"table 0", "error 2"}, {"start", "up"}, {"txn", "error 9"}, {"at", "opening free 0 0 0 1 0"}, {"told", "told 0"}, {"events", ""}, {"ended", "no"},
		{"rows 1", "error 6"}, {"rows 0", "locked"}, {"results 0", "error 6"}, {"results 4294967296", "error 4"}, {"fly", "error 4"}, {"judge", "goes"}}...)
}

func TestNil(t *testing.T) {
	for _, c := range []*Console{nil, {}} {
		s, e := c.Run("at\n")
		if c.Say("at") != nil || s != "" || e != api.ErrNil || c.Plan() != nil || c.Up() {
			t.Error("something of nil is not as it should be")
		}
	}
	c := New()
	if c.Up() || len(c.Plan()) != 0 {
		t.Error("a new one has something")
	}
}

func TestRefused(t *testing.T) { // P26.1
	long := strings.Repeat("x", api.MaxScript+1)
	talk(t, New(), [][2]string{{"", "error 4"}, {" ", "error 4"}, {"at ", "error 4"}, {" at", "error 4"}, {"at\n", "error 4"}, {"at at", "error 4"}, {"AT", "error 4"}, {"start 1", "error 4"}, {"told 1", "error 4"}, {"judge ", "error 4"}, {"results", "error 4"}, {"results ", "error 4"}, {"results 01", "error 4"}, {"results -1", "error 4"}, {"results 1 1", "error 4"},
		{"results 2147483648", "error 4"}, {"results 2147483647", "error 6"}, {"rows +1", "error 4"}, {"rows 0", "error 6"}, {"job", "error 4"}, {"job 1 1 3 1024 1024", "error 4"}, {"job 1 1 3 1024 1024 1 1", "error 4"}, {"job 1 1 3 1024 1024 x", "error 4"}, {"job 1 1 3 1024 1024 2147483648", "error 4"}, {"job 1 1 3 1024  1", "error 4"},
		{"job 9 1 3 1024 1024 1", "error 2"}, {"job 1 2 3 1024 1024 1", "error 2"}, {"table", "error 4"}, {"table 0 0", "error 4"}, {"table 00", "error 4"}, {"table 0", "error 9"}, {"worker 1", "error 4"}, {"worker", "error 9"}, {"txn 1", "error 4"}, {"txn", "error 9"}, {"snapshot", "error 9"}, {"abort", "error 9"}, {"abort ", "error 4"},
		{"get 0", "error 4"}, {"get 9 a", "error 4"}, {"get 0 a", "error 9"}, {"put 0 a", "error 4"}, {"pick", "error 4"}, {"pick 1", "error 6"}, {"pick 2147483648", "error 4"}, {"crash", "error 6"}, {"crash a", "error 4"}, {"crash a 1 a 1", "error 4"},
		{long, "error 3"}, {long[1:], "error 4"}, {"at" + strings.Repeat(" ", api.MaxScript), "error 3"}, {"events", "error 6"}, {"files", "error 6"}, {"recovered", "error 6"}, {"ended", "error 6"}, {"sound", "error 6"}, {"told", "error 6"}}...)
}

func TestPlan(t *testing.T) { // P26.1
	c := New()
	var plan []string
	lay := func(line, want string) {
		t.Helper()
		talk(t, c, [2]string{line, want})
		if want == "ok" {
			plan = append(plan, line)
		}
		if l := c.Plan(); !slices.Equal(l, plan) || c.Up() {
			t.Errorf("behind %q the plan is %q, want %q", line, l, plan)
		}
	}
	lay("job 2 1 3 1024 1024 1", "ok")
	for _, line := range []string{"worker", "txn", "get 0 a"} {
		lay(line, "error 2")
	}
	lay("start", "error 2")
	lay("table 2", "ok")
	lay("table 0", "ok")
	lay("txn", "error 2")
	lay("start", "error 2")
	lay("worker", "ok")
	lay("get 0 a", "error 2")
	for range 64 {
		lay("txn", "ok")
	}
	lay("txn", "error 2")
	for range 16 {
		lay("look 0 1 % % 5", "ok")
	}
	lay("get 0 a", "error 2")
	lay("table 0", "error 2")
	lay("start", "error 2")
	lay("worker", "ok")
	lay("get 0 a", "error 2")
	lay("worker", "error 2")
	lay("snapshot", "ok")
	lay("get 1 a", "ok")
	lay("get 2 a", "error 2")
	lay("put 0 a x", "error 2")
	lay("look 1 0 % % 5", "error 2")
	lay("abort", "ok")
	lay("put 0 a x", "ok")
	talk(t, c, [2]string{"start", "up"}, [2]string{"start", "error 9"}, [2]string{"get 0 a", "error 9"}, [2]string{"told", "told 0 0"})
	if !c.Up() || !slices.Equal(c.Plan(), plan) {
		t.Error("there is no store")
	}
	l := c.Plan()
	l[0] = "x"
	if c.Plan()[0] != plan[0] {
		t.Error("the plan is shared")
	}
	talk(t, c, [2]string{"job 0 1 3 1024 1024 1", "error 2"}, [2]string{"at", "opening free 0 0 0 1 0"}, [2]string{"job 1 1 3 1024 1024 1", "ok"}, [2]string{"at", "error 6"})
	if c.Up() || len(c.Plan()) != 1 {
		t.Error("a job's line is a new plan, without a store")
	}
	c = New() // a plan is not longer than a script's text
	talk(t, c, [2]string{"job 4 1 3 1024 1024 1", "ok"}, [2]string{"table 0", "ok"})
	f, k := strings.Repeat("%00", 24), strings.Repeat("%00", 32)
	said := []string{"ok"}
	bytes := 0
	for i := 0; said[0] == "ok" && i < 4096; i++ {
		if i%1024 == 0 {
			c.Say("worker")
		}
		if i%16 == 0 {
			c.Say("txn")
		}
		said = c.Say("put 0 " + k + " " + f + " " + f + " " + f)
	}
	for _, line := range c.Plan() {
		bytes += len(line) + 1
	}
	if said[0] != "error 2" || bytes > api.MaxScript || bytes < api.MaxScript-400 {
		t.Errorf("the plan has %d bytes; %s", bytes, said)
	}
}

// run does so many picks by turns.
func run(t *testing.T, c *Console, n int) {
	t.Helper()
	for i := range n {
		talk(t, c, [2]string{fmt.Sprint("pick ", i%60), "ok"})
	}
}

func TestLooks(t *testing.T) { // P26.1
	c := New()
	for _, line := range []string{"job 2 1 3 4096 65536 1", "table 1", "table 0", "worker", "txn", "put 0 a%20 x %", "put 0 b y", "txn", "scan 0 % % 5", "get 0 q", "abort", "put 0 a x", "worker", "snapshot", "get 0 q", "start"} {
		if l := c.Say(line); len(l) != 1 || l[0] != "ok" && l[0] != "up" {
			t.Fatalf("%q: %q", line, l)
		}
	}
	run(t, c, 3000)
	events := c.Say("events")
	if !slices.Contains(events, "abort 0 11") || !slices.Contains(events, "durable 3") {
		t.Errorf("events are %q", events)
	}
	first := slices.IndexFunc(events, func(l string) bool { return strings.HasPrefix(l, "commit 0 ") })
	second := slices.IndexFunc(events[first+1:], func(l string) bool { return strings.HasPrefix(l, "commit 0 ") }) + first + 1
	snapshot := slices.IndexFunc(events, func(l string) bool { return strings.HasPrefix(l, "snapshot 1 ") })
	abort := slices.Index(events, "abort 0 11")
	if first < 0 || second <= first || snapshot < 0 || !strings.HasSuffix(events[first], " 2") || !strings.HasSuffix(events[snapshot], " 1") {
		t.Fatalf("events are %q", events)
	}
	var e, s, calls int
	if n, _ := fmt.Sscanf(events[first], "commit 0 %d %d %d", &e, &s, &calls); n != 3 || e < 1 || s < 1 || calls != 2 {
		t.Errorf("a commit is %q", events[first])
	}
	for c.Say("rows 0")[0] == "locked" || c.Say("sound")[0] == "locked" {
		run(t, c, 1)
	}
	talk(t, c, [][2]string{{fmt.Sprint("results ", first), "0 0 | 1 0"}, {fmt.Sprint("results ", second), "0 0 a%20 2 b 1 | 1 6"}, {fmt.Sprint("results ", snapshot), "0 6"}, {fmt.Sprint("results ", abort), ""}, {fmt.Sprint("results ", len(c.Say("events"))), "error 6"},
		{"rows 0", "a%20 x % | b y"}, {"rows 1", ""}, {"rows 2", "error 6"}, {"told", "told 3 1"}, {"ended", "yes"}, {"sound", "yes"}, {"judge", "goes"}}...)
	at := c.Say("at")[0]
	var generation, epoch, durable, tasks, stray int
	if n, _ := fmt.Sscanf(at, "open free %d %d %d %d %d", &generation, &epoch, &durable, &tasks, &stray); n != 5 || generation != 1 || epoch <= durable || durable < 3 || tasks != 7 || stray != 0 {
		t.Errorf("at is %q", at)
	}
	files := c.Say("files")
	names := ""
	for _, f := range files {
		names += strings.Fields(f)[0] + " "
	}
	if !strings.Contains(names, "durable log.1.0 manifest ") || len(strings.Fields(files[0])) != 3 {
		t.Errorf("files are %q", files)
	}
	said := c.Say("recovered")[0]
	var greatest, a, b int
	if n, _ := fmt.Sscanf(said, "%d %d %d rows %d %d", &generation, &epoch, &greatest, &a, &b); n != 5 || generation != 1 || epoch < 3 || greatest < epoch || a != 2 || b != 0 {
		t.Errorf("recovered is %q", said)
	}
	talk(t, c, [][2]string{{"crash none 1", "error 2"}, {"crash", "ok"}}...)
	l := c.Say("events")
	if l[len(l)-2] != "crash" || l[len(l)-1] != fmt.Sprintf("recovered %d 2 0", epoch) {
		t.Errorf("the last events are %q", l[len(l)-2:])
	}
	talk(t, c, [][2]string{{"at", "opening free 1 0 0 1 0"}, {"rows 0", "locked"}, {"sound", "locked"}, {"judge", "goes"}, {"ended", "yes"}}...)
}

// TestPicksUpToTheRefused: acts are done one behind the other.
func TestActs(t *testing.T) {
	c := New()
	c.Run("job 1 1 3 4096 65536 1\ntable 0\nworker\nstart\n")
	for range 30 {
		talk(t, c, [2]string{"pick 0 0 0", "ok"})
	}
	if at := c.Say("at")[0]; !strings.HasPrefix(at, "open free 1 ") {
		t.Errorf("at is %q", at)
	}
	before := c.Say("files")
	talk(t, c, [2]string{"crash manifest 5 nofile 1", "error 2"})
	if after := c.Say("files"); !slices.Equal(before, after) {
		t.Errorf("the files are %q, were %q", after, before)
	}
}

func TestRun(t *testing.T) { // P26.1, P26.2
	text := "at\n\njob 1 1 3 4096 4096 1\ntable 0\nfly\nworker\nstart\nat\nevents"
	got, e := New().Run(text)
	if got != "error 6\nerror 4\nok\nok\nerror 4\nok\nup\nopening free 0 0 0 1 0\n" || e != api.OK {
		t.Errorf("Run is %q, %v", got, e)
	}
	for s, want := range map[string]string{"": "", "\n": "error 4\n", "at": "error 6\n", "at\n": "error 6\n", "at\n\n": "error 6\nerror 4\n"} {
		if got, e := New().Run(s); got != want || e != api.OK {
			t.Errorf("Run of %q is %q, %v", s, got, e)
		}
	}
	if got, e := New().Run(strings.Repeat("x", api.MaxScript+1)); got != "" || e != api.ErrLong {
		t.Errorf("Run is %d bytes, %v", len(got), e)
	}
	if got, e := New().Run(strings.Repeat("x", api.MaxScript)); got != "error 4\n" || e != api.OK {
		t.Errorf("Run is %q, %v", got, e)
	}
}

// TestWhatPlayDoes: a script's text, said line by line, does what the store's Play does; looking changes nothing.
func TestWhatPlayDoes(t *testing.T) { // P26.2, P0.1
	for seed := range int64(12) {
		r := rand.New(rand.NewSource(seed))
		text := "job 2 1 3 8192 65536 2\ntable 1\n"
		for range 2 {
			text += "worker\n"
			for range 1 + r.Intn(4) {
				text += []string{"txn\n", "abort\n", "txn\n", "txn\n"}[r.Intn(4)]
				for range 1 + r.Intn(3) {
					text += []string{"put 0 a x y\n", "get 0 a\n", "scan 0 % % 9\n", "insert 0 b z\n", "look 0 0 % % 5\n", "delete 0 a\n", "put 0 k%20 q w e\n"}[r.Intn(7)]
				}
			}
			text += "snapshot\nscan 0 % % 9\n"
		}
		plan, _, _ := strings.Cut(text, "pick")
		acts := ""
		for range 2 {
			for range 60 {
				acts += "pick"
				for range 16 {
					acts += fmt.Sprint(" ", r.Intn(60))
				}
				acts += "\n"
			}
			acts += []string{"crash\n", "crash manifest 9\n"}[r.Intn(2)]
		}
		s, n, e := script.Parse(plan + acts)
		if e != api.OK {
			t.Fatalf("seed %d: %d, %v", seed, n, e)
		}
		want, bad := store.Play(s.Job, s.Sessions, s.Acts...)
		c, looking := New(), New()
		got, e := c.Run(plan + "start\n" + acts)
		if e != api.OK {
			t.Fatalf("seed %d: %v", seed, e)
		}
		l := strings.Split(strings.TrimSuffix(got, "\n"), "\n")
		last := l[len(l)-1]
		if (last == "ok") != (bad == api.OK) || bad == api.OK && slices.ContainsFunc(l, func(x string) bool { return x != "ok" && x != "up" }) {
			t.Fatalf("seed %d: Play: %v; %s", seed, bad, last)
		}
		if bad != api.OK {
			continue
		}
		if fmt.Sprint(want.At()) != fmt.Sprint(c.store.At()) || !disk.Same(want.Disk(), c.store.Disk()) || fmt.Sprint(slices.Collect(want.Events())) != fmt.Sprint(slices.Collect(c.store.Events())) {
			t.Fatalf("seed %d: it is another store", seed)
		}
		for _, line := range strings.Split(strings.TrimSuffix(plan+"start\n"+acts, "\n"), "\n") {
			looking.Say(line)
			for _, look := range []string{"at", "told", "events", "results 1", "rows 0", "files", "recovered", "ended", "sound", "judge", "fly"} {
				if r.Intn(4) == 0 {
					looking.Say(look)
				}
			}
		}
		if fmt.Sprint(want.At()) != fmt.Sprint(looking.store.At()) || !disk.Same(want.Disk(), looking.store.Disk()) {
			t.Fatalf("seed %d: looking changes something", seed)
		}
		if said := c.Say("judge")[0]; said != "goes" && c.store.Ended() {
			t.Fatalf("seed %d: %s", seed, said)
		}
	}
}
