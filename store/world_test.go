package store

import (
	"fmt"
	"math/rand"
	"testing"

	"garner/api"
	"garner/judge"
	recovery "garner/recover"
)

// someKey, someField: few of them, so that transactions meet.
func someKey(r *rand.Rand) []byte {
	return []byte([]string{"a", "b", "abcdefgh", "abcdefghi", "abcdefghijklmnopqrst", "abcdefghijklmnop", "c", "\x00", "d", "e"}[r.Intn(10)])
}

func someField(r *rand.Rand) []byte {
	return []byte([]string{"", "x", "y", "\x00", "xyz"}[r.Intn(5)])
}

func someOp(r *rand.Rand, j api.Job, reads bool) api.Op {
	o := api.Op{Kind: api.OpKind(1 + r.Intn(6)), Table: r.Intn(len(j.Tables)), Key: someKey(r)}
	if isTight(j) && !reads && r.Intn(2) == 0 { // many keys, with long rows
		o.Kind, o.Key = api.OpPut, []byte(fmt.Sprint("a long key ", r.Intn(500)))
		o.Row = api.Row{[]byte("a row of many bytes")}
		return o
	}
	if reads && o.Kind != api.OpLook {
		o.Kind = []api.OpKind{api.OpGet, api.OpScan}[r.Intn(2)]
	}
	if o.Kind == api.OpLook && j.Tables[o.Table] == 0 {
		o.Kind = api.OpScan
	}
	switch o.Kind {
	case api.OpPut, api.OpInsert:
		for range 1 + r.Intn(3) {
			o.Row = append(o.Row, someField(r))
		}
	case api.OpScan:
		o.Key, o.Most = o.Key[:r.Intn(2)], 1+r.Intn(12)
		if r.Intn(2) == 0 {
			o.To = someKey(r)
		}
	case api.OpLook:
		o.Index, o.Key, o.Most = r.Intn(j.Tables[o.Table]), someField(r), 1+r.Intn(12)
		if r.Intn(2) == 0 {
			o.To = someField(r)
		}
	}
	return o
}

func someTxn(r *rand.Rand, j api.Job) api.Txn {
	t := api.Txn{Snapshot: r.Intn(6) == 0}
	for range r.Intn(5) {
		t.Ops = append(t.Ops, someOp(r, j, t.Snapshot))
	}
	t.Abort = !t.Snapshot && r.Intn(10) == 0
	return t
}

func someJob(r *rand.Rand) api.Job {
	j := api.Job{Workers: 1 + r.Intn(4), Width: 3 + r.Intn(3), Cells: 16384, Disk: 65536, Every: 1 + r.Intn(5)}
	j.Loggers = 1 + r.Intn(min(2, j.Workers))
	for range 1 + r.Intn(2) {
		j.Tables = append(j.Tables, r.Intn(3))
	}
	return j
}

func isTight(j api.Job) bool { return j.Cells < 4096 || j.Disk < 4096 }

// tight is a job whose cells, or whose disk, are wanting.
func tight(r *rand.Rand) api.Job {
	j := someJob(r)
	j.Width = 3 + r.Intn(13)
	if r.Intn(3) > 0 {
		j.Cells = 1024 + r.Intn(1500)
	}
	if r.Intn(3) > 0 {
		j.Disk = 1024 + r.Intn(2000)
	}
	return j
}

func someSessions(r *rand.Rand, j api.Job, n int) [][]api.Txn {
	var l [][]api.Txn
	for range j.Workers {
		var session []api.Txn
		for range r.Intn(n) {
			session = append(session, someTxn(r, j))
		}
		l = append(l, session)
	}
	return l
}

// someCrash keeps what it likes.
func someCrash(r *rand.Rand, s *Store) api.Act {
	a := api.Act{Kind: api.ActCrash}
	for _, name := range s.Disk().Names() {
		switch r.Intn(3) {
		case 0:
			a.Keep = append(a.Keep, api.Kept{Name: name, Loose: r.Intn(60)})
		case 1:
			a.Keep = append(a.Keep, api.Kept{Name: name, Loose: 1 << 20})
		}
	}
	return a
}

func pick(t *testing.T, s *Store, n int) {
	t.Helper()
	if e := s.Do(api.Act{Kind: api.ActPick, N: n}); e != api.OK {
		t.Fatalf("a pick: %v", e)
	}
}

func told(s *Store) string {
	l := ""
	for e := range s.Events() {
		l += fmt.Sprintf("%+v\n", e)
	}
	return l
}

// right: is all that is promised of every moment so?
func right(t *testing.T, what string, s *Store, j api.Job) {
	t.Helper()
	g, _ := judge.New(j)
	for x := range s.Events() {
		if flaw, e := g.Add(x); e != api.OK {
			t.Fatalf("%s: the event %d is flawed by %d:\n%s", what, g.Len(), flaw, told(s))
		}
	}
	// As long as a transaction is installed, and not told yet, another one may be told that has read it.
	if place, flaw, e := g.End(); s.Ended() && e != api.OK {
		t.Fatalf("%s: the event %d is flawed by %d:\n%s", what, place, flaw, told(s))
	}
	if is, asked := s.Sound(); asked && !is {
		t.Fatalf("%s: it is not sound", what)
	}
	if at := s.At(); at.Stray != 0 {
		t.Fatalf("%s: Stray is %d", what, at.Stray)
	}
	d := s.Disk()
	one, e := recovery.Recover(d, j)
	two, bad := recovery.Recover(d, j)
	if e != api.OK || bad != api.OK || fmt.Sprint(one) != fmt.Sprint(two) {
		t.Fatalf("%s: it can't be recovered: %v, %v", what, e, bad)
	}
}

// fair lets all go on by turns till all is told and durable.
func fair(t *testing.T, what string, s *Store, j api.Job) {
	t.Helper()
	last := func() int64 { // the greatest epoch of the commits of this generation
		e := int64(0)
		for x := range s.Events() {
			switch x.Kind {
			case api.EventCommit:
				e = max(e, x.TID.Epoch)
			case api.EventRecovered:
				e = 0
			}
		}
		return e
	}
	for i := 0; ; i++ {
		pick(t, s, i)
		at := s.At()
		full := i > 30000 && j.Disk < 4096 // a full disk stops durability, and nothing else
		if i%500 == 0 && !at.Opening && (at.Stuck || s.Ended() && (at.Durable >= last() || full)) {
			return
		}
		if i > 400000 {
			t.Fatalf("%s: it does not go on: %+v\n%s", what, s.At(), told(s))
		}
	}
}

func over0(t *testing.T, j api.Job, l [][]api.Txn) *Store {
	t.Helper()
	s, e := New(j, l)
	if e != api.OK {
		t.Fatalf("New: %v", e)
	}
	return s
}
