package model

import (
	"bytes"
	"fmt"
	"math/rand"
	"slices"
	"strings"
	"testing"

	"garner/api"
	"garner/catalog"
	"garner/row"
)

func job(tables ...int) api.Job {
	return api.Job{Workers: 2, Loggers: 1, Width: 3, Cells: 1024, Disk: 1024, Every: 1, Tables: tables}
}

func fresh(t *testing.T, tables ...int) *Model {
	t.Helper()
	m, e := New(job(tables...))
	if e != api.OK || m == nil {
		t.Fatalf("New: %v", e)
	}
	return m
}

func op(kind api.OpKind, key, to string, most int, l ...string) api.Op {
	o := api.Op{Kind: kind, Key: []byte(key), To: []byte(to), Most: most}
	for _, f := range l {
		o.Row = append(o.Row, []byte(f))
	}
	return o
}

func get(key string) api.Op                 { return op(api.OpGet, key, "", 0) }
func remove(key string) api.Op              { return op(api.OpDelete, key, "", 0) }
func put(key string, l ...string) api.Op    { return op(api.OpPut, key, "", 0, l...) }
func insert(key string, l ...string) api.Op { return op(api.OpInsert, key, "", 0, l...) }
func scan(from, to string, most int) api.Op { return op(api.OpScan, from, to, most) }
func look(from, to string, most int) api.Op { return op(api.OpLook, from, to, most) }
func of(l ...api.Op) api.Txn                { return api.Txn{Ops: l} }

func said(l []api.Result) string {
	s := ""
	for _, r := range l {
		s += fmt.Sprintf("|%d", r.Errno)
		for _, p := range r.Rows {
			s += fmt.Sprintf(" %s=%s", p.Key, p.Row)
		}
	}
	return s
}

func does(t *testing.T, m *Model, x api.Txn, want string) {
	t.Helper()
	if l, e := m.Do(x); said(l) != want || e != api.OK {
		t.Errorf("Do is %s, %v; want %s", said(l), e, want)
	}
}

func writes(l []api.Write) string {
	s := ""
	for _, w := range l {
		s += fmt.Sprintf("%d %s=%s ", w.Table, w.Key, w.Row)
	}
	return s
}

func TestExamples(t *testing.T) {
	m := fresh(t, 1)
	does(t, m, of(insert("a", "x", "y"), insert("a", "z"), get("a"), remove("b")), "|0|7|0 a=[x y]|6")
	does(t, m, of(put("b", "x", "w"), look("w", "", 9), scan("", "", 1)), "|0|0 b=[x w] a=[x y]|0 a=[x y]")
	if m.Len() != 2 {
		t.Errorf("Len is %d", m.Len())
	}
	x := of(remove("a"), get("a"))
	x.Abort = true
	does(t, m, x, "|0|6")
	if r, ok := m.Get(0, []byte("a")); !row.Same(r, api.Row{[]byte("x"), []byte("y")}) || !ok {
		t.Errorf("Get is %q, %v", r, ok)
	}
	l, e := m.Writes(of(put("c", "z"), remove("c"), insert("a", "q")))
	if writes(l) != "0 c=[] " || l[0].Row != nil || e != api.OK {
		t.Errorf("Writes is %s, %v", writes(l), e)
	}
}

func TestErrors(t *testing.T) { // P22.1, P22.2
	for i, j := range []api.Job{{}, job(), job(3), job(0, 0, 0, 0, 0)} {
		if m, e := New(j); m != nil || e != api.ErrArg {
			t.Errorf("%d: New is %v, %v", i, m, e)
		}
	}
	m := fresh(t, 1)
	does(t, m, of(put("a", "x")), "|0")
	before := m.Copy()
	long := strings.Repeat("x", 33)
	for i, x := range []api.Txn{of(get("")), of(put("b", "x"), get(long)), of(scan("", "", 0)), of(put("b")), {Snapshot: true, Abort: true}, of(api.Op{Kind: api.OpGet, Table: 1, Key: []byte("a")}), of(slices.Repeat([]api.Op{put("b", "x")}, 17)...)} {
		l, e := m.Do(x)
		n, worse := m.Try(x)
		w, worst := m.Writes(x)
		if l != nil || n != nil || w != nil || e != api.ErrArg || worse != api.ErrArg || worst != api.ErrArg {
			t.Errorf("%d: %v, %v, %v", i, e, worse, worst)
		}
	}
	ok := api.Write{Key: []byte("b"), Row: api.Row{[]byte("x")}}
	for i, w := range []api.Write{{Table: 1, Key: []byte("a")}, {Table: -1, Key: []byte("a")}, {Key: nil}, {Key: []byte(long)}, {Key: []byte("a"), Row: api.Row{[]byte(long)}}, {Key: []byte("a"), Row: make(api.Row, 4)}} {
		if e := m.Apply(ok, w); e != api.ErrArg {
			t.Errorf("%d: Apply: %v", i, e)
		}
	}
	if !Same(m, before) {
		t.Error("what is refused changes something")
	}
}

func TestNil(t *testing.T) {
	for _, m := range []*Model{nil, {}} {
		_, e1 := m.Do(api.Txn{})
		_, e2 := m.Try(api.Txn{})
		_, e3 := m.Writes(of(get("")))
		if e1 != api.ErrNil || e2 != api.ErrNil || e3 != api.ErrNil || m.Apply(api.Write{}) != api.ErrNil {
			t.Errorf("%v, %v, %v", e1, e2, e3)
		}
		if r, ok := m.Get(0, []byte("a")); r != nil || ok || m.Tables() != nil || m.Len() != 0 || m.Copy() != nil {
			t.Error("something of nil is not zero")
		}
		for range m.Table(0) {
			t.Error("there is something in nil")
		}
		for range m.Index(0, 0) {
			t.Error("there is something in nil")
		}
	}
	m := fresh(t, 0)
	if !Same(nil, nil) || !Same(nil, &Model{}) || Same(nil, m) || Same(m, &Model{}) || !SameResults(nil, []api.Result{}) || !SamePairs(nil, []api.Pair{}) {
		t.Error("Same of nil is wrong")
	}
}

func TestTryAndWrites(t *testing.T) { // P22.1, P22.2
	m := fresh(t, 1, 0)
	other := put("z", "1")
	other.Table = 1
	x := of(put("b", "1"), other, put("a", "2"), put("b", "3"), remove("n"), insert("c", "4"), insert("c", "5"), remove("a"), get("b"))
	want := "|0|0|0|0|6|0|7|0|0 b=[3]"
	before := m.Copy()
	l, e := m.Try(x)
	w, bad := m.Writes(x)
	if said(l) != want || e != api.OK || writes(w) != "0 a=[] 0 b=[3] 0 c=[4] 1 z=[1] " || bad != api.OK || !Same(m, before) {
		t.Errorf("Try is %s, %v; Writes %s, %v", said(l), e, writes(w), bad)
	}
	does(t, m, x, want)
	if Same(m, before) || m.Len() != 3 {
		t.Errorf("Len is %d", m.Len())
	}
	x.Abort = true
	if w, e := m.Writes(x); len(w) != 0 || e != api.OK {
		t.Errorf("Writes is %v, %v", w, e)
	}
	if e := m.Apply(api.Write{Key: []byte("b")}, api.Write{Key: []byte("q"), Row: api.Row{[]byte("1")}}, api.Write{Key: []byte("q"), Row: api.Row{}}, api.Write{Key: []byte("nobody")}); e != api.OK || m.Len() != 2 {
		t.Errorf("Apply: %v, %d", e, m.Len())
	}
	if e := m.Apply(); e != api.OK {
		t.Errorf("Apply of nothing: %v", e)
	}
}

func TestScans(t *testing.T) { // P22.1
	m := fresh(t, 2)
	does(t, m, of(put("a", "0", "x", "1"), put("b", "0", "y", "1"), put("c", "0", "x"), put("d", "0"), put("e", "0", "", "0"), put("f", "0", "x\x00", "1")), "|0|0|0|0|0|0")
	keys := func(o api.Op) string {
		l, _ := m.Do(of(o))
		s := ""
		for _, p := range l[0].Rows {
			s += string(p.Key)
		}
		return s
	}
	second := func(from, to string, most int) api.Op {
		o := look(from, to, most)
		o.Index = 1
		return o
	}
	for i, x := range []struct {
		o    api.Op
		want string
	}{
		{scan("", "", 64), "abcdef"}, {scan("b", "e", 64), "bcd"}, {scan("bb", "", 2), "cd"}, {scan("e", "b", 9), ""}, {scan("", "a", 9), ""}, {scan("f", "", 9), "f"}, {scan("g", "", 9), ""},
		{look("", "", 64), "eacfb"}, {look("x", "", 64), "acfb"}, {look("x", "y", 64), "acf"}, {look("x", "x", 64), ""}, {look("x\x00", "", 64), "fb"}, {look("x", "x\x00", 9), "ac"}, {look("", "", 2), "ea"}, {look("z", "", 9), ""},
		{second("", "", 64), "eabf"}, {second("1", "", 2), "ab"}, {second("", "1", 9), "e"},
	} {
		if got := keys(x.o); got != x.want {
			t.Errorf("%d: %s, want %s", i, got, x.want)
		}
	}
	does(t, m, of(remove("a"), put("b", "0", "a"), look("", "", 9)), "|0|0|0 e=[0  0] b=[0 a] c=[0 x] f=[0 x\x00 1]")
}

func TestLooking(t *testing.T) { // P22.3
	m := fresh(t, 1, 0)
	does(t, m, of(put("b", "0", "x"), put("a", "1", "y"), put("c", "2")), "|0|0|0")
	all, index := m.Table(0), m.Index(0, 0)
	does(t, m, of(put("d", "3")), "|0") // as they are when they begin
	for range 2 {
		s := ""
		for p := range all {
			s += fmt.Sprintf("%s=%s ", p.Key, p.Row)
			p.Key[0], p.Row[0][0] = 'z', 'z'
		}
		for p := range index {
			field, key, e := row.Split(p.Key)
			s += fmt.Sprintf("%s:%s=%s%v ", field, key, p.Row, e == api.OK)
			p.Row[0][0] = 'z'
		}
		if s != "a=[1 y] b=[0 x] c=[2] d=[3] x:b=[0 x]true y:a=[1 y]true " {
			t.Errorf("there is %s", s)
		}
	}
	for range all {
		break
	}
	for range index {
		break
	}
	for _, x := range [][2]int{{-1, 0}, {2, 0}, {0, 1}, {0, -1}, {1, 0}} {
		for range m.Index(x[0], x[1]) {
			t.Errorf("there is something in %v", x)
		}
		if x[0] != 0 && x[0] != 1 {
			for range m.Table(x[0]) {
				t.Errorf("there is something in %v", x)
			}
			if r, ok := m.Get(x[0], []byte("a")); r != nil || ok {
				t.Errorf("there is something in %v", x)
			}
		}
	}
	if r, ok := m.Get(0, []byte("q")); r != nil || ok {
		t.Errorf("Get is %v, %v", r, ok)
	}
	r, _ := m.Get(0, []byte("a"))
	r[0][0] = 'z'
	tables := m.Tables()
	if len(tables) != 2 || len(tables[0]) != 4 || len(tables[1]) != 0 || string(tables[0][0].Row[0]) != "1" || m.Len() != 4 {
		t.Errorf("Tables are %v", tables)
	}
	c := m.Copy()
	if !Same(m, c) {
		t.Error("a copy is another one")
	}
	does(t, c, of(put("a", "1", "z")), "|0")
	if Same(m, c) || Same(c, m) || Same(fresh(t, 1), fresh(t, 0)) || Same(fresh(t, 1), fresh(t, 1, 0)) || !Same(fresh(t, 2), fresh(t, 2)) {
		t.Error("Same is wrong")
	}
	other := job(0)
	other.Workers, other.Width = 4, 15
	if x, _ := New(other); !Same(x, fresh(t, 0)) {
		t.Error("just the tables count")
	}
	src := []int{1}
	x, _ := New(job(src...))
	src[0] = 0
	if !Same(x, fresh(t, 1)) {
		t.Error("the job is shared")
	}
}

func TestSame(t *testing.T) { // P22.3
	p := func(key string, l ...string) api.Pair { o := put(key, l...); return api.Pair{Key: o.Key, Row: o.Row} }
	a := []api.Pair{p("a", "x"), p("b", "y")}
	for i, b := range [][]api.Pair{nil, a[:1], {a[1], a[0]}, {p("a", "x"), p("b", "z")}, {p("a", "x"), p("c", "y")}, {p("a", "x"), p("b", "y", "")}} {
		if SamePairs(a, b) || SamePairs(b, a) || SameResults([]api.Result{{Rows: a}}, []api.Result{{Rows: b}}) {
			t.Errorf("%d: they are the same", i)
		}
	}
	if !SamePairs(a, slices.Clone(a)) || SameResults([]api.Result{{Rows: a}}, []api.Result{{Rows: a, Errno: 1}}) || !SameResults([]api.Result{{Rows: a}}, []api.Result{{Rows: slices.Clone(a)}}) || SameResults(make([]api.Result, 1), nil) {
		t.Error("Same is wrong")
	}
}

func TestWhatFollows(t *testing.T) { // P22.4, P0.1
	for seed := range int64(60) {
		r := rand.New(rand.NewSource(seed))
		j := job(2, 1)
		m, _ := New(j)
		for range 60 {
			var x api.Txn
			for range r.Intn(6) {
				o := op(api.OpKind(1+r.Intn(6)), string(rune('a'+r.Intn(5))), "", 0)
				o.Table = r.Intn(2)
				switch o.Kind {
				case api.OpPut, api.OpInsert:
					for range 1 + r.Intn(3) {
						o.Row = append(o.Row, []byte{byte(r.Intn(3))})
					}
				case api.OpScan, api.OpLook:
					o.Most = 1 + r.Intn(5)
				}
				x.Ops = append(x.Ops, o)
			}
			x.Abort = r.Intn(5) == 0
			w, e := m.Writes(x)
			c := m.Copy()
			tried, _ := m.Try(x)
			l, bad := m.Do(x)
			if e != api.OK || bad != api.OK || c.Apply(w...) != api.OK || !Same(c, m) || !SameResults(tried, l) {
				t.Fatalf("seed %d: Do of %+v is not Writes and Apply", seed, x)
			}
			for i, o := range x.Ops { // what is read behind it is what its calls wrote last
				last := true
				for _, later := range x.Ops[i+1:] {
					last = last && !(later.Table == o.Table && bytes.Equal(later.Key, o.Key) && later.Kind >= api.OpPut && later.Kind <= api.OpDelete)
				}
				got, ok := m.Get(o.Table, o.Key)
				if last && !x.Abort && (o.Kind == api.OpPut && !row.Same(got, o.Row) || o.Kind == api.OpDelete && ok) {
					t.Fatalf("seed %d: %+v left %v", seed, o, got)
				}
			}
			for table, indexes := range j.Tables {
				for index := range indexes {
					tree, _ := catalog.Tree(j, table, index)
					want := map[string]api.Row{}
					for p := range m.Table(table) {
						entries, _ := catalog.Entries(j, table, p.Key, p.Row)
						for _, e := range entries {
							if e.Tree == tree {
								want[string(e.Key)] = p.Row
							}
						}
					}
					last, n := []byte(nil), 0
					for p := range m.Index(table, index) {
						if n++; bytes.Compare(last, p.Key) >= 0 || !row.Same(want[string(p.Key)], p.Row) {
							t.Fatalf("seed %d: the entry %q has %q", seed, p.Key, p.Row)
						}
						last = p.Key
					}
					if n != len(want) {
						t.Fatalf("seed %d: there are %d entries, want %d", seed, n, len(want))
					}
				}
			}
		}
	}
}
