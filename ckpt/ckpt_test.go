package ckpt

import (
	"fmt"
	"math/rand"
	"reflect"
	"slices"
	"testing"

	"garner/api"
	"garner/catalog"
	"garner/cells"
	"garner/disk"
	"garner/epoch"
	"garner/log"
	recovery "garner/recover"
	"garner/tasks"
	"garner/tree"
	"garner/txn"
)

var job = api.Job{Workers: 2, Loggers: 2, Width: 3, Cells: 8192, Disk: 16384, Every: 1, Tables: []int{1, 0}}

// over is a machine with empty tables over a disk.
func over(t *testing.T, d *disk.Disk) *tasks.Machine {
	t.Helper()
	a, _ := cells.New(job.Cells)
	m, e := tasks.New(a, d)
	if e != api.OK {
		t.Fatal(e)
	}
	alone(t, m, func(a *tasks.Act) {
		epoch.Start(a, 1)
		for n := range catalog.All(job) {
			tree.Make(a, api.CellRoot+uint64(n), job.Width)
		}
	})
	return m
}

func fresh(room int) *disk.Disk {
	d, _ := disk.New(room)
	return d
}

func alone(t *testing.T, m *tasks.Machine, f func(a *tasks.Act)) {
	t.Helper()
	if _, ok := m.Alone(func(a *tasks.Act) any { f(a); return nil }); !ok {
		t.Fatal("it is not done at once")
	}
}

// lay writes a whole file.
func lay(d *disk.Disk, name string, b []byte, e api.Errno) {
	if e != api.OK {
		panic(e)
	}
	d.Append(name, b)
	d.Sync(name)
}

func read(t *testing.T, d *disk.Disk, want api.Manifest) {
	t.Helper()
	b, e := d.Read(api.ManifestName)
	m, bad := log.ReadManifest(b)
	n, _ := d.Lasting(api.ManifestName)
	if !reflect.DeepEqual(m, want) || e != api.OK || bad != api.OK || n != len(b) {
		t.Errorf("the manifest is %+v, %v, %v; want %+v", m, e, bad, want)
	}
}

func names(t *testing.T, d *disk.Disk, want ...string) {
	t.Helper()
	if l := d.Names(); !slices.Equal(l, want) {
		t.Errorf("the files are %v, want %v", l, want)
	}
}

func TestExamples(t *testing.T) { // P20.1, P20.2
	d := fresh(job.Disk)
	for _, name := range []string{"log.1.0", "manifest.new", "x"} {
		d.Append(name, []byte("something"))
	}
	first := api.Manifest{Generation: 1}
	alone(t, over(t, d), func(a *tasks.Act) {
		if m, ok := Open(a, job, api.Recovered{}); !reflect.DeepEqual(m, first) || !ok {
			t.Errorf("Open is %+v, %v", m, ok)
		}
	})
	read(t, d, first)
	names(t, d, "manifest")
	d.Append("log.1.0", nil)
	second := api.Manifest{Generation: 2, Floor: 2, Logs: []api.LogPart{{Name: "log.1.0", To: 2}}}
	alone(t, over(t, d), func(a *tasks.Act) {
		r := api.Recovered{Generation: 1, Epoch: 2, Manifest: first, Own: []api.LogPart{{Name: "log.1.0", To: 2}}}
		if m, ok := Open(a, job, r); !reflect.DeepEqual(m, second) || !ok {
			t.Errorf("Open is %+v, %v", m, ok)
		}
	})
	read(t, d, second)
	names(t, d, "log.1.0", "manifest")
	third := api.Manifest{Generation: 2, Name: "check.2.3", Epoch: 3, Floor: 3}
	m := over(t, d)
	m.Arena().Store(api.CellSnapshots, 3)
	m.Arena().Store(api.CellDurable, 3)
	for range 2 {
		alone(t, m, func(a *tasks.Act) {
			if m := Round(a, job, 2, second); !reflect.DeepEqual(m, third) {
				t.Errorf("Round is %+v", m)
			}
			second = third
		})
		read(t, d, third)
		names(t, d, "check.2.3", "manifest")
	}
	b, _ := d.Read("check.2.3")
	if c, e := log.ReadCheckpoint(b); c.Epoch != 3 || len(c.Tables) != 2 || e != api.OK {
		t.Errorf("the checkpoint is %+v, %v", c, e)
	}
	if pin, _ := m.Arena().Load(api.CellPin + api.MaxWorkers); pin != 0 {
		t.Errorf("the pin is %d", pin)
	}
}

func TestRound(t *testing.T) { // P20.1
	d := fresh(job.Disk)
	m := over(t, d)
	old := api.Manifest{Generation: 5, Name: "check.4.1", Epoch: 1, Floor: 9, Logs: []api.LogPart{{Name: "log.4.0", To: 2}, {Name: "log.4.1", To: 3}}}
	for _, name := range []string{"check.4.1", "log.4.0", "log.4.1", "log.5.0", "log.5.1", "durable", "durable.new", "check.5.2", "log.3.0"} {
		d.Append(name, []byte("something"))
	}
	alone(t, m, func(a *tasks.Act) {
		x := api.Txn{Ops: []api.Op{{Kind: api.OpPut, Key: []byte("a"), Row: api.Row{[]byte("x"), []byte("y")}}}}
		txn.Run(a, txn.Seats(job)[0], x, nil)
		epoch.Advance(a, 2)
		epoch.Advance(a, 2)
		epoch.Settle(a, 2)
		x.Ops[0].Row = api.Row{[]byte("z")}
		txn.Run(a, txn.Seats(job)[0], x, nil)
	})
	n, _ := m.Begin(func(a *tasks.Act) any { return Round(a, job, 5, old) }, nil)
	for i := 0; i < 200; i++ { // it waits till the epoch is durable
		m.Step(n)
	}
	b, _ := d.Read("check.5.2")
	c, e := log.ReadCheckpoint(b)
	want := api.Checkpoint{Epoch: 2, Tables: [][]api.Stored{{{Key: []byte("a"), Row: api.Row{[]byte("x"), []byte("y")}, TID: api.TID{Epoch: 1, Seq: 1}}}, nil}}
	if at, _ := m.At(n); at.Ended || !reflect.DeepEqual(c, want) || e != api.OK {
		t.Fatalf("%+v; the checkpoint is %+v, %v", at, c, e)
	}
	names(t, d, "check.4.1", "check.5.2", "durable", "durable.new", "log.3.0", "log.4.0", "log.4.1", "log.5.0", "log.5.1")
	m.Arena().Store(api.CellDurable, 2)
	for m.Step(n) == api.OK {
	}
	next := api.Manifest{Generation: 5, Name: "check.5.2", Epoch: 2, Floor: 9, Logs: []api.LogPart{{Name: "log.4.1", To: 3}}}
	if at, _ := m.At(n); !reflect.DeepEqual(at.Answer, next) {
		t.Errorf("Round is %+v", at.Answer)
	}
	read(t, d, next)
	names(t, d, "check.5.2", "durable", "durable.new", "log.4.1", "log.5.0", "log.5.1", "manifest")
}

func TestRefused(t *testing.T) { // P20.1, P20.2
	old := api.Manifest{Generation: 5}
	for _, room := range []int{0, 8, 30, 50, 60} { // what is left of it: for the checkpoint, or not, and for the manifest, or not
		d := fresh(1024)
		d.Append("fill", make([]byte, 1024-room))
		m := over(t, d)
		m.Arena().Store(api.CellSnapshots, 3)
		m.Arena().Store(api.CellDurable, 3)
		alone(t, m, func(a *tasks.Act) {
			got := Round(a, job, 5, old)
			if _, e := d.Read(api.ManifestName); (e == api.OK) != (got.Epoch == 3) || got.Epoch == 0 && !reflect.DeepEqual(got, old) || got.Epoch == 3 && room < 30 {
				t.Errorf("room %d: Round is %+v, the files %v", room, got, d.Names())
			}
			if got.Epoch == 0 && !slices.Contains(d.Names(), "fill") {
				t.Errorf("room %d: all was tidied", room)
			}
		})
		d = fresh(1024)
		d.Append("fill", make([]byte, 1024-room))
		alone(t, over(t, d), func(a *tasks.Act) {
			got, ok := Open(a, job, api.Recovered{Manifest: old})
			if _, e := d.Read(api.ManifestName); (e == api.OK) != ok || !ok && (!reflect.DeepEqual(got, api.Manifest{}) || d.Used() < 1024-room) || ok != (room > 12) {
				t.Errorf("room %d: Open is %+v, %v, the files %v", room, got, ok, d.Names())
			}
		})
	}
	d := fresh(job.Disk)
	d.Append("x", nil)
	m := over(t, d)
	m.Arena().Store(api.CellSnapshots, 3)
	m.Arena().Store(api.CellDurable, 3)
	alone(t, m, func(a *tasks.Act) {
		for _, bad := range []api.Manifest{{}, {Generation: 1, Epoch: 2}, {Generation: -1}} {
			if got := Round(a, job, 1, bad); !reflect.DeepEqual(got, bad) {
				t.Errorf("Round is %+v", got)
			}
		}
		if got := Round(a, job, 0, old); !reflect.DeepEqual(got, old) { // no name
			t.Errorf("Round is %+v", got)
		}
		if got, ok := Open(a, job, api.Recovered{Manifest: api.Manifest{Generation: api.MaxNumber}}); !reflect.DeepEqual(got, api.Manifest{}) || ok {
			t.Errorf("Open is %+v, %v", got, ok)
		}
	})
	names(t, d, "x")
	if got := Round(nil, job, 5, old); !reflect.DeepEqual(got, old) {
		t.Errorf("Round is %+v", got)
	}
	if got, ok := Open(nil, job, api.Recovered{}); !reflect.DeepEqual(got, api.Manifest{}) || ok {
		t.Errorf("Open is %+v, %v", got, ok)
	}
}

func logged(e, seq int64, table int, key, row string) []byte {
	w := api.Write{Table: table, Key: []byte(key)}
	if row != "" {
		w.Row = api.Row{[]byte(row)}
	}
	b, bad := log.PutTxn(api.Logged{TID: api.TID{Epoch: e, Seq: seq}, Writes: []api.Write{w}})
	if bad != api.OK {
		panic(bad)
	}
	return b
}

// elder is a disk of some generations: a manifest, a checkpoint, logs, what is durable, and what crashes left.
func elder(r *rand.Rand) *disk.Disk {
	d := fresh(job.Disk)
	if r.Intn(6) == 0 {
		d.Append("log.1.0", []byte("of an opening that was cut"))
		return d
	}
	m := api.Manifest{Generation: 3}
	seq := int64(0)
	if r.Intn(2) == 0 {
		m.Name, m.Epoch, m.Floor = "check.2.4", 4, 4
		b, e := log.PutCheckpoint(api.Checkpoint{Epoch: 4, Tables: [][]api.Stored{{{Key: []byte("a"), Row: api.Row{[]byte("c")}, TID: api.TID{Epoch: 2, Seq: 1}}}}})
		lay(d, m.Name, b, e)
	}
	for _, name := range []string{"log.1.0", "log.2.1", "log.3.0", "log.3.1"} {
		if r.Intn(4) == 0 {
			continue
		}
		var b []byte
		for e := int64(1); e < 9; e++ {
			seq++
			b = append(b, logged(e, seq, r.Intn(2), string(rune('a'+r.Intn(3))), []string{"", name, "y"}[r.Intn(3)])...)
		}
		d.Append(name, b)
		d.Sync(name)
		d.Append(name, []byte("torn"))
		if name[4] != '3' {
			part := api.LogPart{Name: name, To: int64(r.Intn(7))}
			m.Logs, m.Floor = append(m.Logs, part), max(m.Floor, part.To)
		}
	}
	b, e := log.PutManifest(m)
	lay(d, api.ManifestName, b, e)
	if r.Intn(3) > 0 {
		b, e := log.PutDurable(api.Durable{Generation: 2 + int64(r.Intn(2)), Epoch: int64(r.Intn(8))})
		lay(d, api.DurableName, b, e)
	}
	for _, name := range []string{"log.4.0", "manifest.new", "durable.new", "check.4.9"} {
		if r.Intn(2) == 0 {
			d.Append(name, []byte("left by a crash"))
		}
	}
	return d
}

// crash is the disk behind a crash that keeps what it likes.
func crash(r *rand.Rand, d *disk.Disk) *disk.Disk {
	var keep []api.Kept
	for _, name := range d.Names() {
		keep = append(keep, api.Kept{Name: name, Loose: r.Intn(40)})
	}
	c, _ := d.Crash(keep...)
	return c
}

// TestOpenAndCrashes: behind each action of Open the disk says the tables that it said.
func TestOpenAndCrashes(t *testing.T) { // P20.3, P0.2
	for seed := range int64(300) {
		r := rand.New(rand.NewSource(seed))
		d := elder(r)
		first, e := recovery.Recover(d, job)
		if e != api.OK {
			t.Fatalf("seed %d: %v", seed, e)
		}
		want := fmt.Sprint(first.Tables)
		m := over(t, d)
		n, _ := m.Begin(func(a *tasks.Act) any { m, ok := Open(a, job, first); return fmt.Sprint(m.Generation, ok) }, nil)
		for going := true; going; {
			going = m.Step(n) == api.OK
			c := crash(r, d)
			got, e := recovery.Recover(c, job)
			if e != api.OK || fmt.Sprint(got.Tables) != want || got.Epoch > first.Epoch {
				t.Fatalf("seed %d: %v, epoch %d, %v; it was %d, %s", seed, e, got.Epoch, got.Tables, first.Epoch, want)
			}
			if r.Intn(4) > 0 {
				continue
			}
			again := over(t, c) // another opening behind that crash
			alone(t, again, func(a *tasks.Act) {
				if _, ok := Open(a, job, got); !ok {
					t.Fatalf("seed %d: it can't be opened again", seed)
				}
			})
			for _, name := range []string{"manifest.new", "durable.new", fmt.Sprintf("log.%d.0", got.Generation+1)} {
				if slices.Contains(c.Names(), name) {
					t.Fatalf("seed %d: %s is in the way: %v", seed, name, c.Names())
				}
			}
			if got, e := recovery.Recover(crash(r, c), job); e != api.OK || fmt.Sprint(got.Tables) != want {
				t.Fatalf("seed %d: %v, %v; it was %s", seed, e, got.Tables, want)
			}
		}
		if at, _ := m.At(n); at.Answer != fmt.Sprint(first.Generation+1, true) {
			t.Fatalf("seed %d: Open is %v", seed, at.Answer)
		}
	}
}

// TestRoundAndCrashes: behind each action of Round the disk says the tables of the durable epoch.
func TestRoundAndCrashes(t *testing.T) { // P20.3, P0.2
	for seed := range int64(60) {
		r := rand.New(rand.NewSource(seed))
		d := fresh(job.Disk)
		m := over(t, d)
		var manifest api.Manifest
		var want string
		alone(t, m, func(a *tasks.Act) {
			manifest, _ = Open(a, job, api.Recovered{})
			for e := int64(1); e < 6; e++ {
				for range 3 {
					x := api.Txn{Ops: []api.Op{{Kind: api.OpPut, Table: r.Intn(2), Key: []byte{byte('a' + r.Intn(4))}, Row: api.Row{{byte(e)}, {byte(r.Intn(3))}}}}}
					if r.Intn(4) == 0 {
						x.Ops[0].Kind, x.Ops[0].Row = api.OpDelete, nil
					}
					txn.Run(a, txn.Seats(job)[r.Intn(2)], x, nil)
				}
				epoch.Advance(a, 2)
			}
			epoch.Settle(a, 2)
			for w := range 2 {
				name, _ := log.LogName(1, w)
				for _, b := range a.Pull(w) {
					a.Append(name, b)
				}
				a.Sync(name)
			}
		})
		b, e := log.PutDurable(api.Durable{Generation: 1, Epoch: 5})
		lay(d, api.DurableName, b, e)
		m.Arena().Store(api.CellDurable, 5)
		first, e := recovery.Recover(d, job)
		if e != api.OK {
			t.Fatalf("seed %d: %v", seed, e)
		}
		want = fmt.Sprint(first.Epoch, first.Tables)
		d.Append("manifest.new", []byte("left by a crash"))
		d.Append("check.1.5", []byte("left by a crash"))
		n, _ := m.Begin(func(a *tasks.Act) any { return Round(a, job, 1, manifest).Name }, nil)
		for going := true; going; {
			going = m.Step(n) == api.OK
			got, e := recovery.Recover(crash(r, d), job)
			if is := fmt.Sprint(got.Epoch, got.Tables); e != api.OK || is != want {
				t.Fatalf("seed %d: %v, %s; it was %s", seed, e, is, want)
			}
		}
		if at, _ := m.At(n); at.Answer != "check.1.5" {
			t.Fatalf("seed %d: Round is %v", seed, at.Answer)
		}
	}
}
