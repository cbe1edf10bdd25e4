package txn

import (
	"bytes"
	"fmt"
	"maps"
	"slices"
	"testing"

	"garner/api"
	"garner/catalog"
	"garner/cells"
	"garner/disk"
	"garner/epoch"
	"garner/record"
	"garner/row"
	"garner/tasks"
	"garner/tid"
	"garner/tree"
)

func job(tables ...int) api.Job {
	return api.Job{Workers: 3, Loggers: 1, Width: 3, Cells: 16384, Disk: 1024, Every: 1, Tables: tables}
}

// laid is a new store of a job, epoch 1.
func laid(t *testing.T, j api.Job) *tasks.Machine {
	t.Helper()
	a, _ := cells.New(j.Cells)
	d, _ := disk.New(j.Disk)
	m, e := tasks.New(a, d)
	if e != api.OK {
		t.Fatal(e)
	}
	alone(t, m, func(a *tasks.Act) {
		epoch.Start(a, 1)
		for _, n := range catalog.All(j) {
			c, _ := Cell(j, n.Table, n.Index)
			if e := tree.Make(a, c, j.Width); e != api.OK {
				t.Fatal(e)
			}
		}
	})
	return m
}

func alone(t *testing.T, m *tasks.Machine, f func(a *tasks.Act)) {
	t.Helper()
	if _, ok := m.Alone(func(a *tasks.Act) any { f(a); return nil }); !ok {
		t.Fatal("it is not done at once")
	}
}

func fields(l ...string) api.Row {
	var r api.Row
	for _, f := range l {
		r = append(r, []byte(f))
	}
	return r
}

func get(key string) api.Op    { return api.Op{Kind: api.OpGet, Key: []byte(key)} }
func remove(key string) api.Op { return api.Op{Kind: api.OpDelete, Key: []byte(key)} }
func put(key string, l ...string) api.Op {
	return api.Op{Kind: api.OpPut, Key: []byte(key), Row: fields(l...)}
}
func insert(key string, l ...string) api.Op {
	return api.Op{Kind: api.OpInsert, Key: []byte(key), Row: fields(l...)}
}
func scan(from, to string, most int) api.Op {
	return api.Op{Kind: api.OpScan, Key: []byte(from), To: []byte(to), Most: most}
}
func look(from, to string, most int) api.Op {
	return api.Op{Kind: api.OpLook, Key: []byte(from), To: []byte(to), Most: most}
}
func of(l ...api.Op) api.Txn { return api.Txn{Ops: l} }

// told is what an outcome says, as a text.
func told(o api.Outcome) string {
	s := fmt.Sprintf("%d %d.%d", o.Errno, o.TID.Epoch, o.TID.Seq)
	for _, r := range o.Results {
		s += fmt.Sprintf(" |%d", r.Errno)
		for _, p := range r.Rows {
			s += fmt.Sprintf(" %s=%s", p.Key, p.Row)
		}
	}
	return s
}

// tables are maps from keys to rows: what transactions mean, in the plainest way.
type tables []map[string]api.Row

func (m tables) copy() tables {
	var c tables
	for _, t := range m {
		c = append(c, maps.Clone(t))
	}
	return c
}

func (m tables) do(o api.Op) (r api.Result) {
	t, k := m[o.Table], string(o.Key)
	_, there := t[k]
	switch {
	case !there && (o.Kind == api.OpGet || o.Kind == api.OpDelete):
		r.Errno = api.ErrNone
	case there && o.Kind == api.OpInsert:
		r.Errno = api.ErrThere
	case o.Kind == api.OpGet:
		r.Rows = []api.Pair{{Key: o.Key, Row: t[k]}}
	case o.Kind == api.OpPut, o.Kind == api.OpInsert:
		t[k] = o.Row
	case o.Kind == api.OpDelete:
		delete(t, k)
	case o.Kind == api.OpScan:
		for _, k := range slices.Sorted(maps.Keys(t)) {
			if k >= string(o.Key) && (len(o.To) == 0 || k < string(o.To)) && len(r.Rows) < o.Most {
				r.Rows = append(r.Rows, api.Pair{Key: []byte(k), Row: t[k]})
			}
		}
	default:
		var l []api.Pair
		for k, x := range t {
			if len(x) > o.Index+1 && bytes.Compare(x[o.Index+1], o.Key) >= 0 && (len(o.To) == 0 || bytes.Compare(x[o.Index+1], o.To) < 0) {
				l = append(l, api.Pair{Key: []byte(k), Row: x})
			}
		}
		slices.SortFunc(l, func(a, b api.Pair) int {
			if c := bytes.Compare(a.Row[o.Index+1], b.Row[o.Index+1]); c != 0 {
				return c
			}
			return bytes.Compare(a.Key, b.Key)
		})
		r.Rows = l[:min(len(l), o.Most)]
	}
	return r
}

// whole does a transaction: its results, and whether its end is another state.
func (m tables) whole(t api.Txn) []api.Result {
	var l []api.Result
	on := m
	if t.Abort {
		on = m.copy()
	}
	for _, o := range t.Ops {
		l = append(l, on.do(o))
	}
	return l
}

func newTables(j api.Job) tables {
	var m tables
	for range j.Tables {
		m = append(m, map[string]api.Row{})
	}
	return m
}

// stands holds what stands in the cells against tables: rows, entries, and that all trees are sound.
func (m tables) stands(t *testing.T, mach *tasks.Machine, j api.Job) {
	t.Helper()
	alone(t, mach, func(a *tasks.Act) {
		want := map[int]map[string]api.Row{}
		for n, what := range catalog.All(j) {
			if want[n] == nil {
				want[n] = map[string]api.Row{}
			}
			if what.Index >= 0 {
				continue
			}
			for k, r := range m[what.Table] {
				want[n][k] = r
				l, _ := catalog.Entries(j, what.Table, []byte(k), r)
				for _, e := range l {
					if want[e.Tree] == nil {
						want[e.Tree] = map[string]api.Row{}
					}
					want[e.Tree][string(e.Key)] = nil
				}
			}
		}
		for n, what := range catalog.All(j) {
			c, _ := Cell(j, what.Table, what.Index)
			got := map[string]api.Row{}
			tree.Scan(a, c, j.Width, nil, func(api.Seen) {}, func(k []byte, rec uint64) bool {
				word, r := record.Read(a, rec)
				if tid.Locked(word) || tid.Dead(word) {
					t.Fatalf("%q has the word %d", k, word)
				}
				if !tid.Absent(word) {
					got[string(k)] = r
				}
				return true
			})
			if !maps.EqualFunc(got, want[n], row.Same) {
				t.Fatalf("the tree %d has %q, want %q", n, got, want[n])
			}
			if _, ok := tree.Check(a, c, j.Width); !ok {
				t.Fatalf("the tree %d is not sound", n)
			}
		}
	})
	if mach.Stray() != 0 {
		t.Fatalf("Stray is %d", mach.Stray())
	}
}
