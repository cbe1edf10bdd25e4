package catalog

import (
	"bytes"
	"math"
	"math/rand"
	"reflect"
	"slices"
	"strings"
	"testing"

	"garner/api"
	"garner/row"
)

func job(tables ...int) api.Job {
	return api.Job{Workers: 2, Loggers: 1, Width: 3, Cells: 1024, Disk: 1024, Every: 1, Tables: tables}
}

func of(fields ...string) api.Row {
	var r api.Row
	for _, f := range fields {
		r = append(r, []byte(f))
	}
	return r
}

var j = job(0, 2)

func TestCheck(t *testing.T) { // P16.1
	for i, x := range []struct {
		change func(j *api.Job)
		want   bool
	}{
		{func(j *api.Job) {}, true}, {func(j *api.Job) { j.Workers = 0 }, false}, {func(j *api.Job) { j.Workers = 5 }, false}, {func(j *api.Job) { j.Workers, j.Loggers = 4, 2 }, true}, {func(j *api.Job) { j.Loggers = 0 }, false},
		{func(j *api.Job) { j.Workers, j.Loggers = 1, 2 }, false}, {func(j *api.Job) { j.Workers, j.Loggers = 4, 3 }, false}, {func(j *api.Job) { j.Width = 2 }, false}, {func(j *api.Job) { j.Width = 16 }, false}, {func(j *api.Job) { j.Width = 15 }, true},
		{func(j *api.Job) { j.Cells = 1023 }, false}, {func(j *api.Job) { j.Cells = 65537 }, false}, {func(j *api.Job) { j.Cells = 65536 }, true}, {func(j *api.Job) { j.Disk = 1023 }, false}, {func(j *api.Job) { j.Disk = 1048577 }, false}, {func(j *api.Job) { j.Disk = 1048576 }, true},
		{func(j *api.Job) { j.Every = 0 }, false}, {func(j *api.Job) { j.Every = 101 }, false}, {func(j *api.Job) { j.Every = 100 }, true}, {func(j *api.Job) { j.Tables = nil }, false}, {func(j *api.Job) { j.Tables = make([]int, 4) }, true}, {func(j *api.Job) { j.Tables = make([]int, 5) }, false},
		{func(j *api.Job) { j.Tables = []int{0, 3} }, false}, {func(j *api.Job) { j.Tables = []int{-1} }, false}, {func(j *api.Job) { *j = api.Job{} }, false}, {func(j *api.Job) { j.Workers = math.MinInt }, false},
	} {
		j := job(1)
		x.change(&j)
		want := api.OK
		if !x.want {
			want = api.ErrArg
			if Trees(j) != 0 {
				t.Errorf("%d: there are %d trees", i, Trees(j))
			}
		}
		if e := Check(j); e != want {
			t.Errorf("%d: Check: %v", i, e)
		}
	}
}

func TestTrees(t *testing.T) { // P16.1, P16.5
	if Trees(j) != 4 || Trees(job(2, 2, 2, 2)) != 12 || Trees(job(0)) != 1 {
		t.Error("Trees is wrong")
	}
	want := []api.Named{{Table: 0, Index: -1}, {Table: 1, Index: -1}, {Table: 1, Index: 0}, {Table: 1, Index: 1}}
	for range 2 {
		n := 0
		for tree, what := range All(j) {
			if tree != n || what != want[n] {
				t.Errorf("All at %d is %d, %v", n, tree, what)
			}
			if got, e := Tree(j, what.Table, what.Index); got != tree || e != api.OK {
				t.Errorf("Tree of %v is %d, %v", what, got, e)
			}
			if table, index, e := Of(j, tree); table != what.Table || index != what.Index || e != api.OK {
				t.Errorf("Of(%d) is %d, %d, %v", tree, table, index, e)
			}
			n++
		}
		if n != 4 {
			t.Errorf("All has %d", n)
		}
	}
	for range All(j) {
		break
	}
	for range All(api.Job{}) {
		t.Error("there is something in no job")
	}
	for _, x := range [][2]int{{0, 0}, {1, 2}, {1, -2}, {2, -1}, {-1, -1}, {math.MaxInt, 0}, {0, math.MinInt}} {
		if tree, e := Tree(j, x[0], x[1]); tree != 0 || e != api.ErrArg {
			t.Errorf("Tree(%d, %d) is %d, %v", x[0], x[1], tree, e)
		}
	}
	for _, n := range []int{-1, 4, math.MaxInt, math.MinInt} {
		if table, index, e := Of(j, n); table != 0 || index != 0 || e != api.ErrArg {
			t.Errorf("Of(%d) is %d, %d, %v", n, table, index, e)
		}
	}
	if _, e := Tree(api.Job{Tables: []int{1}}, 0, -1); e != api.ErrArg {
		t.Errorf("Tree of no job: %v", e)
	}
}

func entry(tree int, field, key string) api.Entry {
	b, _ := row.Entry([]byte(field), []byte(key))
	return api.Entry{Tree: tree, Key: b}
}

func same(a, b []api.Entry) bool {
	return slices.EqualFunc(a, b, func(x, y api.Entry) bool { return x.Tree == y.Tree && bytes.Equal(x.Key, y.Key) })
}

func TestEntries(t *testing.T) { // P16.2
	k := []byte("k")
	for _, x := range []struct {
		table int
		r     api.Row
		want  []api.Entry
	}{{1, of("a", "b"), []api.Entry{entry(2, "b", "k")}}, {1, of("a"), nil}, {1, of("a", "b", ""), []api.Entry{entry(2, "b", "k"), entry(3, "", "k")}}, {1, nil, nil}, {1, api.Row{}, nil}, {0, of("a", "b"), nil}} {
		if l, e := Entries(j, x.table, k, x.r); !same(l, x.want) || e != api.OK {
			t.Errorf("Entries of %q is %v, %v", x.r, l, e)
		}
	}
	for i, x := range []struct {
		j     api.Job
		table int
		key   string
		r     api.Row
	}{{j, 2, "k", of("a")}, {j, -1, "k", of("a")}, {j, 1, "", of("a")}, {j, 1, strings.Repeat("k", 33), nil}, {j, 1, "k", of("a", "b", "c", "d")}, {j, 1, "k", of(strings.Repeat("x", 25))}, {api.Job{}, 0, "k", nil}} {
		if l, e := Entries(x.j, x.table, []byte(x.key), x.r); l != nil || e != api.ErrArg {
			t.Errorf("%d: Entries is %v, %v", i, l, e)
		}
		if g, c, e := Changes(x.j, x.table, []byte(x.key), x.r, nil); g != nil || c != nil || e != api.ErrArg {
			t.Errorf("%d: Changes is %v, %v, %v", i, g, c, e)
		}
		if g, c, e := Changes(x.j, x.table, []byte(x.key), nil, x.r); g != nil || c != nil || e != api.ErrArg {
			t.Errorf("%d: Changes is %v, %v, %v", i, g, c, e)
		}
	}
	for i, x := range []struct {
		was, is    api.Row
		gone, come []api.Entry
	}{
		{of("a", "b"), of("a", "c"), []api.Entry{entry(2, "b", "k")}, []api.Entry{entry(2, "c", "k")}}, {of("a", "b", "c"), of("z", "b", "c"), nil, nil}, {nil, of("a", "b", "c"), nil, []api.Entry{entry(2, "b", "k"), entry(3, "c", "k")}},
		{of("a", "b", "c"), nil, []api.Entry{entry(2, "b", "k"), entry(3, "c", "k")}, nil}, {of("a", "x", "y"), of("a", "y", "x"), []api.Entry{entry(2, "x", "k"), entry(3, "y", "k")}, []api.Entry{entry(2, "y", "k"), entry(3, "x", "k")}},
		{of("a", "x", "y"), of("a", "x"), []api.Entry{entry(3, "y", "k")}, nil}, {nil, nil, nil, nil},
	} {
		if g, c, e := Changes(j, 1, k, x.was, x.is); !same(g, x.gone) || !same(c, x.come) || e != api.OK {
			t.Errorf("%d: Changes is %v, %v, %v", i, g, c, e)
		}
	}
}

func op(kind api.OpKind, table, index int, key, to string, most int, r api.Row) api.Op {
	return api.Op{Kind: kind, Table: table, Index: index, Key: []byte(key), To: []byte(to), Most: most, Row: r}
}

func TestMayOp(t *testing.T) { // P16.3
	k25, k33 := strings.Repeat("x", 25), strings.Repeat("x", 33)
	for i, x := range []struct {
		o    api.Op
		want bool
	}{
		{op(api.OpGet, 0, 0, "a", "", 0, nil), true}, {op(api.OpDelete, 1, 0, k33[:32], "", 0, nil), true}, {op(api.OpGet, 0, 0, "", "", 0, nil), false}, {op(api.OpGet, 0, 0, k33, "", 0, nil), false},
		{op(api.OpGet, 2, 0, "a", "", 0, nil), false}, {op(api.OpGet, -1, 0, "a", "", 0, nil), false}, {op(api.OpGet, 0, 1, "a", "", 0, nil), false}, {op(api.OpGet, 0, -1, "a", "", 0, nil), false},
		{op(api.OpGet, 0, 0, "a", "b", 0, nil), false}, {op(api.OpGet, 0, 0, "a", "", 1, nil), false}, {op(api.OpGet, 0, 0, "a", "", 0, of("a")), false}, {op(api.OpGet, 0, 0, "a", "", 0, api.Row{}), true},
		{op(api.OpPut, 0, 0, "a", "", 0, of("x")), true}, {op(api.OpPut, 0, 0, "a", "", 0, nil), false}, {op(api.OpInsert, 1, 0, "a", "", 0, of("x", "", k25[:24])), true}, {op(api.OpInsert, 1, 0, "a", "", 0, of(k25)), false}, {op(api.OpInsert, 1, 0, "", "", 0, of("x")), false},
		{op(api.OpDelete, 1, 0, "a", "", 0, of("x")), false}, {op(api.OpPut, 1, 1, "a", "", 0, of("x")), false}, {op(api.OpPut, 1, 0, "a", "b", 0, of("x")), false}, {op(api.OpPut, 1, 0, "a", "", 2, of("x")), false},
		{op(api.OpScan, 0, 0, "", "", 1, nil), true}, {op(api.OpScan, 0, 0, k33[:32], k33[:32], 64, nil), true}, {op(api.OpScan, 0, 0, "", "", 65, nil), false}, {op(api.OpScan, 0, 0, "", "", 0, nil), false}, {op(api.OpScan, 0, 0, "", "", -1, nil), false},
		{op(api.OpScan, 0, 0, k33, "", 1, nil), false}, {op(api.OpScan, 0, 0, "", k33, 1, nil), false}, {op(api.OpScan, 1, 1, "", "", 1, nil), false}, {op(api.OpScan, 0, 0, "", "", 1, of("a")), false},
		{op(api.OpLook, 1, 0, "", "", 1, nil), true}, {op(api.OpLook, 1, 1, k25[:24], k25[:24], 64, nil), true}, {op(api.OpLook, 1, 2, "", "", 1, nil), false}, {op(api.OpLook, 1, -1, "", "", 1, nil), false}, {op(api.OpLook, 0, 0, "", "", 1, nil), false},
		{op(api.OpLook, 1, 0, k25, "", 1, nil), false}, {op(api.OpLook, 1, 0, "", k25, 1, nil), false}, {op(api.OpLook, 1, 0, "", "", 0, nil), false}, {op(api.OpLook, 1, 0, "", "", 65, nil), false}, {op(api.OpLook, 1, 0, "", "", 1, of("a")), false},
		{op(0, 0, 0, "a", "", 0, nil), false}, {op(7, 0, 0, "a", "", 0, nil), false}, {op(-1, 0, 0, "a", "", 0, nil), false}, {op(math.MaxInt, 0, 0, "a", "", 0, nil), false}, {api.Op{}, false},
	} {
		if MayOp(j, x.o) != x.want {
			t.Errorf("%d: MayOp is not %v", i, x.want)
		}
		if MayTxn(j, api.Txn{Ops: []api.Op{x.o}}) != x.want {
			t.Errorf("%d: MayTxn is not %v", i, x.want)
		}
		if MayOp(api.Job{}, x.o) {
			t.Errorf("%d: in no job it may be", i)
		}
	}
}

func TestMayTxn(t *testing.T) { // P16.3
	get, put, del := op(api.OpGet, 0, 0, "a", "", 0, nil), op(api.OpPut, 0, 0, "a", "", 0, of("x")), op(api.OpDelete, 0, 0, "a", "", 0, nil)
	ins, scan, look := op(api.OpInsert, 0, 0, "a", "", 0, of("x")), op(api.OpScan, 0, 0, "", "", 1, nil), op(api.OpLook, 1, 0, "", "", 1, nil)
	for i, x := range []struct {
		t    api.Txn
		want bool
	}{
		{api.Txn{}, true}, {api.Txn{Abort: true}, true}, {api.Txn{Snapshot: true}, true}, {api.Txn{Snapshot: true, Abort: true}, false}, {api.Txn{Ops: slices.Repeat([]api.Op{put}, 16)}, true}, {api.Txn{Ops: slices.Repeat([]api.Op{put}, 17)}, false},
		{api.Txn{Snapshot: true, Ops: []api.Op{get, scan, look}}, true}, {api.Txn{Snapshot: true, Ops: []api.Op{get, put}}, false}, {api.Txn{Snapshot: true, Ops: []api.Op{del}}, false}, {api.Txn{Snapshot: true, Ops: []api.Op{ins}}, false},
		{api.Txn{Abort: true, Ops: []api.Op{get, put, del, ins, scan, look}}, true},
	} {
		if MayTxn(j, x.t) != x.want {
			t.Errorf("%d: MayTxn is not %v", i, x.want)
		}
		if MaySessions(j, [][]api.Txn{{x.t}, nil}) != x.want {
			t.Errorf("%d: MaySessions is not %v", i, x.want)
		}
	}
	if MayTxn(api.Job{}, api.Txn{}) || MaySessions(api.Job{}, nil) {
		t.Error("in no job it may be")
	}
	for i, x := range []struct {
		l    [][]api.Txn
		want bool
	}{{nil, false}, {[][]api.Txn{nil}, false}, {[][]api.Txn{nil, nil}, true}, {[][]api.Txn{nil, nil, nil}, false}, {[][]api.Txn{make([]api.Txn, 64), nil}, true}, {[][]api.Txn{nil, make([]api.Txn, 65)}, false}} {
		if MaySessions(j, x.l) != x.want {
			t.Errorf("%d: MaySessions is not %v", i, x.want)
		}
	}
}

func TestRange(t *testing.T) { // P16.4
	for i, x := range []struct {
		o    api.Op
		want api.Range
	}{
		{op(api.OpScan, 1, 0, "a\x00", "b\x00", 1, nil), api.Range{Tree: 1, From: []byte("a\x00"), To: []byte("b\x00"), End: true}}, {op(api.OpScan, 0, 0, "", "", 1, nil), api.Range{Tree: 0}},
		{op(api.OpLook, 1, 1, "a\x00", "b\x00", 1, nil), api.Range{Tree: 3, From: []byte("a\x00\xff"), To: []byte("b\x00\xff"), End: true}}, {op(api.OpLook, 1, 0, "", "", 1, nil), api.Range{Tree: 2}},
	} {
		r, e := Range(j, x.o)
		if r.Tree != x.want.Tree || !bytes.Equal(r.From, x.want.From) || !bytes.Equal(r.To, x.want.To) || r.End != x.want.End || e != api.OK {
			t.Errorf("%d: Range is %+v, %v", i, r, e)
		}
		if len(r.From) > 0 {
			r.From[0], r.To[0] = 'z', 'z'
			if x.o.Key[0] != 'a' || x.o.To[0] != 'b' {
				t.Error("Range shares memory with what it was given")
			}
		}
	}
	for i, o := range []api.Op{op(api.OpGet, 0, 0, "a", "", 0, nil), op(api.OpScan, 0, 0, "", "", 65, nil), op(api.OpLook, 0, 0, "", "", 1, nil), {}} {
		if r, e := Range(j, o); !reflect.DeepEqual(r, api.Range{}) || e != api.ErrArg {
			t.Errorf("%d: Range is %+v, %v", i, r, e)
		}
	}
}

func TestWhatFollows(t *testing.T) { // P16.5
	r := rand.New(rand.NewSource(1))
	some := func() api.Row {
		l := of("", "a", "b")[:r.Intn(3)+1]
		for i := range l {
			l[i] = []byte{byte(r.Intn(3))}[:r.Intn(2)]
		}
		if r.Intn(4) == 0 {
			return nil
		}
		return l
	}
	for range 3000 {
		was, is, k, l := some(), some(), []byte{byte(r.Intn(3))}, []byte{byte(r.Intn(3))}
		elder, _ := Entries(j, 1, k, was)
		want, _ := Entries(j, 1, k, is)
		others, _ := Entries(j, 1, l, is)
		gone, come, _ := Changes(j, 1, k, was, is)
		got := elder
		for _, g := range gone {
			n := len(got)
			if got = slices.DeleteFunc(got, func(x api.Entry) bool { return same([]api.Entry{x}, []api.Entry{g}) }); len(got) != n-1 {
				t.Fatalf("%v goes, and is not there", g)
			}
		}
		got = append(got, come...)
		slices.SortFunc(got, func(a, b api.Entry) int { return a.Tree - b.Tree })
		if !same(got, want) {
			t.Fatalf("%q to %q: %v, %v", was, is, gone, come)
		}
		for _, x := range want {
			for _, y := range others {
				if !bytes.Equal(k, l) && same([]api.Entry{x}, []api.Entry{y}) {
					t.Fatalf("the keys %q and %q have the entry %v", k, l, x)
				}
			}
		}
	}
}
