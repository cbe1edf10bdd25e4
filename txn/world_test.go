package txn

import (
	"fmt"
	"slices"
	"testing"

	"garner/api"
	"garner/catalog"
	"garner/cells"
	"garner/disk"
	"garner/epoch"
	"garner/model"
	"garner/record"
	"garner/tasks"
	"garner/tid"
	"garner/tree"
)

func job(tables ...int) api.Job {
	return api.Job{Workers: 3, Loggers: 1, Width: 3, Cells: 16384, Disk: 1024, Every: 1, Tables: tables}
}

// laid is a new store of a job, epoch 1.
func laid(t *testing.T, j api.Job) *tasks.Machine {
	t.Helper()
	a, _ := cells.New(j.Cells)
	d, _ := disk.New(j.Disk)
	m, e := tasks.New(a, d)
	if e != api.OK {
		t.Fatal(e)
	}
	alone(t, m, func(a *tasks.Act) {
		epoch.Start(a, 1)
		for _, n := range catalog.All(j) {
			c, _ := Cell(j, n.Table, n.Index)
			if e := tree.Make(a, c, j.Width); e != api.OK {
				t.Fatal(e)
			}
		}
	})
	return m
}

func alone(t *testing.T, m *tasks.Machine, f func(a *tasks.Act)) {
	t.Helper()
	if _, ok := m.Alone(func(a *tasks.Act) any { f(a); return nil }); !ok {
		t.Fatal("it is not done at once")
	}
}

func fields(l ...string) api.Row {
	var r api.Row
	for _, f := range l {
		r = append(r, []byte(f))
	}
	return r
}

func get(key string) api.Op    { return api.Op{Kind: api.OpGet, Key: []byte(key)} }
func remove(key string) api.Op { return api.Op{Kind: api.OpDelete, Key: []byte(key)} }
func put(key string, l ...string) api.Op {
	return api.Op{Kind: api.OpPut, Key: []byte(key), Row: fields(l...)}
}
func insert(key string, l ...string) api.Op {
	return api.Op{Kind: api.OpInsert, Key: []byte(key), Row: fields(l...)}
}
func scan(from, to string, most int) api.Op {
	return api.Op{Kind: api.OpScan, Key: []byte(from), To: []byte(to), Most: most}
}
func look(from, to string, most int) api.Op {
	return api.Op{Kind: api.OpLook, Key: []byte(from), To: []byte(to), Most: most}
}
func of(l ...api.Op) api.Txn { return api.Txn{Ops: l} }

// told is what an outcome says, as a text.
func told(o api.Outcome) string {
	s := fmt.Sprintf("%d %d.%d", o.Errno, o.TID.Epoch, o.TID.Seq)
	for _, r := range o.Results {
		s += fmt.Sprintf(" |%d", r.Errno)
		for _, p := range r.Rows {
			s += fmt.Sprintf(" %s=%s", p.Key, p.Row)
		}
	}
	return s
}

// tables are what transactions mean.
type tables struct{ *model.Model }

func newTables(j api.Job) tables {
	m, _ := model.New(j)
	return tables{m}
}

// whole does a transaction.
func (m tables) whole(t api.Txn) []api.Result {
	l, _ := m.Do(t)
	return l
}

// stands holds what stands in the cells against tables: rows, entries, and that all trees are sound.
func (m tables) stands(t *testing.T, mach *tasks.Machine, j api.Job) {
	t.Helper()
	alone(t, mach, func(a *tasks.Act) {
		for n, what := range catalog.All(j) {
			c, _ := Cell(j, what.Table, what.Index)
			var got, want []api.Pair
			tree.Scan(a, c, j.Width, nil, func(api.Seen) {}, func(k []byte, rec uint64) bool {
				word, r := record.Read(a, rec)
				if tid.Locked(word) || tid.Dead(word) {
					t.Fatalf("%q has the word %d", k, word)
				}
				if !tid.Absent(word) {
					got = append(got, api.Pair{Key: k, Row: r})
				}
				return true
			})
			if what.Index < 0 {
				want = slices.Collect(m.Table(what.Table))
			} else {
				for p := range m.Index(what.Table, what.Index) {
					want = append(want, api.Pair{Key: p.Key})
				}
			}
			if !model.SamePairs(got, want) {
				t.Fatalf("the tree %d has %q, want %q", n, got, want)
			}
			if _, ok := tree.Check(a, c, j.Width); !ok {
				t.Fatalf("the tree %d is not sound", n)
			}
		}
	})
	if mach.Stray() != 0 {
		t.Fatalf("Stray is %d", mach.Stray())
	}
}
