package recover

import (
	"fmt"
	"math/rand"
	"reflect"
	"slices"
	"testing"

	"garner/api"
	"garner/disk"
	"garner/log"
)

var job = api.Job{Workers: 2, Loggers: 2, Width: 3, Cells: 1024, Disk: 65536, Every: 1, Tables: []int{0, 1}}

func fresh() *disk.Disk {
	d, _ := disk.New(job.Disk)
	return d
}

func sure(b []byte, e api.Errno) []byte {
	if e != api.OK {
		panic(e)
	}
	return b
}

func row(s string) api.Row {
	if s == "" {
		return nil
	}
	return api.Row{[]byte(s)}
}

func txn(epoch, seq int64, table int, key, field string) []byte {
	return sure(log.PutTxn(api.Logged{TID: api.TID{Epoch: epoch, Seq: seq}, Writes: []api.Write{{Table: table, Key: []byte(key), Row: row(field)}}}))
}

func stored(key, field string, epoch, seq int64) api.Stored {
	return api.Stored{Key: []byte(key), Row: row(field), TID: api.TID{Epoch: epoch, Seq: seq}}
}

func manifest(d *disk.Disk, m api.Manifest) {
	d.Remove(api.ManifestName)
	d.Append(api.ManifestName, sure(log.PutManifest(m)))
}

func durable(d *disk.Disk, generation, epoch int64) {
	d.Remove(api.DurableName)
	d.Append(api.DurableName, sure(log.PutDurable(api.Durable{Generation: generation, Epoch: epoch})))
}

func says(t *testing.T, what string, d *disk.Disk, want api.Recovered) {
	t.Helper()
	before := d.Copy()
	for range 2 {
		if r, e := Recover(d, job); !reflect.DeepEqual(r, want) || e != api.OK {
			t.Errorf("%s: it says %+v, %v; want %+v", what, r, e, want)
		}
	}
	if !disk.Same(before, d) {
		t.Errorf("%s: the disk has changed", what)
	}
}

func corrupted(t *testing.T, what string, d *disk.Disk) {
	t.Helper()
	if r, e := Recover(d, job); !reflect.DeepEqual(r, api.Recovered{}) || e != api.ErrCorrupt {
		t.Errorf("%s: it says %+v, %v", what, r, e)
	}
	for range Counted(d, job) {
		t.Errorf("%s: something counts", what)
	}
}

func TestExamples(t *testing.T) { // P21.1
	d := fresh()
	empty := api.Recovered{Tables: make([][]api.Stored, 2)}
	says(t, "nothing", d, empty)
	d.Append("log.0.0", []byte("whatever"))
	durable(d, 5, 5)
	says(t, "no manifest", d, empty)
	d.Append(api.ManifestName, []byte{0})
	corrupted(t, "a manifest of 00", d)

	d = fresh()
	m := api.Manifest{Generation: 1}
	manifest(d, m)
	d.Append("log.1.0", slices.Concat(txn(1, 1, 0, "k", "a"), txn(2, 1, 0, "k", "b")))
	one := api.Recovered{Generation: 1, Greatest: 2, Tables: make([][]api.Stored, 2), Manifest: m, Own: []api.LogPart{{Name: "log.1.0"}}}
	says(t, "no file of what is durable", d, one)
	durable(d, 1, 1)
	one.Epoch, one.Own[0].To = 1, 1
	one.Tables[0] = []api.Stored{stored("k", "a", 1, 1)}
	says(t, "durable 1 1", d, one)
	durable(d, 1, 2)
	one.Epoch, one.Own[0].To = 2, 2
	one.Tables[0] = []api.Stored{stored("k", "b", 2, 1)}
	says(t, "durable 1 2", d, one)
	durable(d, 2, 1)
	corrupted(t, "durable 2 1", d)
	durable(d, 1, 9)
	one.Epoch, one.Greatest, one.Own[0].To = 9, 9, 9
	says(t, "durable 1 9", d, one)
}

// full is a disk with all that there may be.
func full() (*disk.Disk, api.Manifest) {
	d := fresh()
	m := api.Manifest{Generation: 4, Name: "check.3.5", Epoch: 5, Floor: 8, Logs: []api.LogPart{{Name: "log.2.0", To: 7}, {Name: "elder", To: 8}}}
	manifest(d, m)
	durable(d, 4, 10)
	d.Append("check.3.5", sure(log.PutCheckpoint(api.Checkpoint{Epoch: 5, Tables: [][]api.Stored{{stored("a", "c", 5, 1), stored("b", "c", 3, 2), stored("d", "c", 4, 3)}}})))
	d.Append("log.2.0", slices.Concat(txn(5, 1, 0, "b", "not"), txn(7, 5, 0, "b", "x"), txn(6, 4, 0, "b", "y"), txn(8, 6, 0, "b", "not")))
	d.Append("elder", slices.Concat(txn(8, 7, 0, "d", ""), txn(12, 9, 1, "b", "not")))
	d.Append("log.4.0", slices.Concat(txn(9, 11, 1, "q", "z"), txn(11, 12, 1, "q", "not"), []byte("torn")))
	d.Append("log.4.1", slices.Concat(txn(10, 13, 1, "c", "z"), txn(5, 14, 1, "c", "not")))
	d.Append("log.3.0", []byte("nobody asks for it"))
	return d, m
}

func want(m api.Manifest) api.Recovered {
	return api.Recovered{Generation: 4, Epoch: 10, Greatest: 12, Manifest: m, Own: []api.LogPart{{Name: "log.4.0", To: 10}, {Name: "log.4.1", To: 10}},
		Tables: [][]api.Stored{{stored("a", "c", 5, 1), stored("b", "x", 7, 5)}, {stored("c", "z", 10, 13), stored("q", "z", 9, 11)}}}
}

func TestAllOfIt(t *testing.T) { // P21.1
	d, m := full()
	r := want(m)
	says(t, "all", d, r)
	durable(d, 3, 99)
	r.Epoch, r.Own[0].To, r.Own[1].To, r.Tables[1] = 8, 0, 0, nil
	says(t, "durable of an elder generation", d, r)
	d.Remove("log.4.0")
	r.Own = r.Own[1:]
	says(t, "without an own log", d, r)
	one := job
	one.Loggers = 1
	r.Own = nil
	if got, e := Recover(d, one); !reflect.DeepEqual(got, r) || e != api.OK {
		t.Errorf("of one logger: %+v, %v", got, e)
	}
}

func TestCorrupt(t *testing.T) { // P21.1, P0.6
	bad, _ := log.Frame([]byte("no transaction"))
	for what, change := range map[string]func(d *disk.Disk, m api.Manifest){
		"a manifest that is none":              func(d *disk.Disk, m api.Manifest) { d.Append(api.ManifestName, []byte{1}) },
		"an empty manifest":                    func(d *disk.Disk, m api.Manifest) { d.Remove(api.ManifestName); d.Append(api.ManifestName, nil) },
		"a checkpoint that is none":            func(d *disk.Disk, m api.Manifest) { d.Append(m.Name, []byte{1}) },
		"no checkpoint":                        func(d *disk.Disk, m api.Manifest) { d.Remove(m.Name) },
		"a checkpoint of another epoch":        func(d *disk.Disk, m api.Manifest) { m.Epoch = 6; manifest(d, m) },
		"what is durable, that is none":        func(d *disk.Disk, m api.Manifest) { d.Append(api.DurableName, []byte{1}) },
		"what is durable, of a later time":     func(d *disk.Disk, m api.Manifest) { durable(d, 5, 1) },
		"no elder log":                         func(d *disk.Disk, m api.Manifest) { d.Remove("elder") },
		"a frame in an elder log":              func(d *disk.Disk, m api.Manifest) { d.Append("elder", bad) },
		"a frame in an own log":                func(d *disk.Disk, m api.Manifest) { d.Append("log.4.1", bad) },
		"a table that there is not":            func(d *disk.Disk, m api.Manifest) { d.Append("elder", txn(7, 20, 2, "k", "x")) },
		"one of a transaction that counts not": func(d *disk.Disk, m api.Manifest) { d.Append("elder", txn(20, 20, 2, "k", "x")) },
		"two of one number":                    func(d *disk.Disk, m api.Manifest) { d.Append("elder", txn(7, 5, 1, "k", "x")) },
		"two of one number, in one log":        func(d *disk.Disk, m api.Manifest) { d.Append("log.4.1", txn(10, 13, 1, "k", "x")) },
		"a checkpoint of more tables": func(d *disk.Disk, m api.Manifest) {
			d.Remove(m.Name)
			d.Append(m.Name, sure(log.PutCheckpoint(api.Checkpoint{Epoch: 5, Tables: make([][]api.Stored, 3)})))
		},
	} {
		d, m := full()
		change(d, m)
		corrupted(t, what, d)
	}
	for what, change := range map[string]func(d *disk.Disk){
		"two of one number that do not count": func(d *disk.Disk) {
			d.Append("elder", slices.Concat(txn(12, 9, 1, "b", "not"), txn(4, 1, 0, "z", "x")))
		},
		"what stands behind the last frame": func(d *disk.Disk) { d.Append("log.4.1", txn(10, 30, 1, "c", "x")[:12]); d.Append("elder", []byte{0}) },
		"a torn frame, and whole ones":      func(d *disk.Disk) { d.Append("log.4.0", txn(10, 31, 1, "c", "x")) },
		"other files":                       func(d *disk.Disk) { d.Append("manifest.new", bad); d.Append("log.5.0", bad); d.Append("log.3.0", bad) },
	} {
		d, m := full()
		change(d)
		says(t, what, d, want(m))
	}
	d, _ := full()
	for _, x := range []*disk.Disk{nil, {}} {
		if r, e := Recover(x, api.Job{}); !reflect.DeepEqual(r, api.Recovered{}) || e != api.ErrNil {
			t.Errorf("%+v, %v", r, e)
		}
		for range Counted(x, job) {
			t.Error("something counts")
		}
	}
	if r, e := Recover(d, api.Job{Tables: []int{0, 1}}); !reflect.DeepEqual(r, api.Recovered{}) || e != api.ErrArg {
		t.Errorf("%+v, %v", r, e)
	}
	for range Counted(d, api.Job{}) {
		t.Error("something counts")
	}
}

func TestPairsAndCounted(t *testing.T) { // P21.2
	d, m := full()
	r := want(m)
	p := Pairs(r)
	if fmt.Sprintf("%s", p) != "[[{a [c]} {b [x]}] [{c [z]} {q [z]}]]" {
		t.Errorf("Pairs is %s", p)
	}
	p[0][0].Key[0], p[0][0].Row[0][0] = 'z', 'z'
	if string(r.Tables[0][0].Key) != "a" || string(r.Tables[0][0].Row[0]) != "c" || Pairs(api.Recovered{}) != nil {
		t.Error("Pairs shares memory")
	}
	all := Counted(d, job)
	for range 2 {
		s := ""
		for x := range all {
			s += fmt.Sprint(x.TID, " ")
		}
		if s != "{6 4} {7 5} {8 7} {9 11} {10 13} " {
			t.Errorf("what counts is %s", s)
		}
	}
	for range all {
		break
	}
	durable(d, 4, 9) // as they are when it begins
	n := 0
	for range all {
		n++
	}
	if n != 4 {
		t.Errorf("%d count", n)
	}
}

// TestNextSaysTheSame: a disk with the manifest that comes next says the same tables.
func TestNextSaysTheSame(t *testing.T) { // P21.3, P0.2
	for seed := range int64(300) {
		r := rand.New(rand.NewSource(seed))
		d := fresh()
		m := api.Manifest{Generation: 3}
		if r.Intn(2) == 0 {
			m.Name, m.Epoch, m.Floor = "c", 3, 3
			d.Append("c", sure(log.PutCheckpoint(api.Checkpoint{Epoch: 3, Tables: [][]api.Stored{{stored("a", "c", 2, 100)}, {stored("b", "c", 3, 101)}}})))
		}
		seq := int64(0)
		for _, name := range []string{"one", "two", "log.3.0", "log.3.1"} {
			for range r.Intn(12) {
				seq++
				d.Append(name, txn(1+r.Int63n(9), seq, r.Intn(2), string(rune('a'+r.Intn(4))), []string{"", "x", name}[r.Intn(3)]))
			}
			d.Append(name, []byte("torn")[:r.Intn(5)])
			if name[0] != 'l' {
				to := int64(r.Intn(9))
				m.Logs, m.Floor = append(m.Logs, api.LogPart{Name: name, To: to}), max(m.Floor, to)
			}
		}
		manifest(d, m)
		if r.Intn(4) > 0 {
			durable(d, 3-int64(r.Intn(2)), int64(r.Intn(10)))
		}
		first, e := Recover(d, job)
		if e != api.OK {
			t.Fatalf("seed %d: %v", seed, e)
		}
		count := 0
		tables := Pairs(first)
		last := api.TID{}
		for x := range Counted(d, job) {
			if count++; !log.Less(last, x.TID) || x.TID.Epoch <= m.Epoch || x.TID.Epoch > first.Greatest {
				t.Fatalf("seed %d: %v counts behind %v", seed, x.TID, last)
			}
			last = x.TID
		}
		next, e := log.Next(first.Manifest, first.Epoch, first.Own...)
		if e != api.OK {
			t.Fatalf("seed %d: %v", seed, e)
		}
		manifest(d, next)
		again, e := Recover(d, job)
		if e != api.OK || !reflect.DeepEqual(Pairs(again), tables) || again.Epoch > first.Epoch || again.Greatest < again.Epoch {
			t.Fatalf("seed %d: %v, %+v; it was %+v", seed, e, again, first)
		}
		more := 0
		for range Counted(d, job) {
			more++
		}
		if more != count {
			t.Fatalf("seed %d: %d count, %d did", seed, more, count)
		}
	}
}
