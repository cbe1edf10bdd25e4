package script

import (
	"fmt"
	"math"
	"math/rand"
	"slices"
	"strings"
	"testing"

	"garner/api"
)

func op(kind api.OpKind, table int, key string, l ...string) api.Op {
	o := api.Op{Kind: kind, Table: table, Key: []byte(key)}
	for _, f := range l {
		o.Row = append(o.Row, []byte(f))
	}
	return o
}

func span(kind api.OpKind, table, index int, key, to string, most int) api.Op {
	return api.Op{Kind: kind, Table: table, Index: index, Key: []byte(key), To: []byte(to), Most: most}
}

func picks(l ...int) []api.Act {
	var all []api.Act
	for _, n := range l {
		all = append(all, api.Act{Kind: api.ActPick, N: n})
	}
	return all
}

func crash(l ...api.Kept) api.Act { return api.Act{Kind: api.ActCrash, Keep: l} }

func lines(l ...string) string { return strings.Join(l, "\n") + "\n" }

var little = []string{"job 1 1 3 1024 1024 1", "table 0", "worker", "txn", "get 0 a", "pick 0"}

func TestExamples(t *testing.T) {
	for i, x := range []struct {
		o    api.Op
		want string
	}{{op(api.OpPut, 0, "a", "x", ""), "put 0 a x %"}, {span(api.OpScan, 1, 0, "a", "", 5), "scan 1 a % 5"}, {op(api.OpGet, 4, "a"), ""}} {
		if s, e := Line(x.o); s != x.want || (e == api.OK) != (x.want != "") {
			t.Errorf("%d: Line is %q, %v", i, s, e)
		}
	}
	if o, e := Unline("get 0 a"); !sameOp(o, op(api.OpGet, 0, "a")) || e != api.OK {
		t.Errorf("Unline is %+v, %v", o, e)
	}
	if l, e := Unact("pick 1 2"); !slices.EqualFunc(l, picks(1, 2), sameAct) || e != api.OK {
		t.Errorf("Unact is %v, %v", l, e)
	}
	if l, e := Unact("crash log.1.0 5"); len(l) != 1 || !sameAct(l[0], crash(api.Kept{Name: "log.1.0", Loose: 5})) || e != api.OK {
		t.Errorf("Unact is %v, %v", l, e)
	}
	s, n, e := Parse(lines(little...))
	want := api.Script{Job: api.Job{Workers: 1, Loggers: 1, Width: 3, Cells: 1024, Disk: 1024, Every: 1, Tables: []int{0}}, Sessions: [][]api.Txn{{{Ops: []api.Op{op(api.OpGet, 0, "a")}}}}, Acts: picks(0)}
	if !Same(s, want) || n != 0 || e != api.OK {
		t.Errorf("Parse is %+v, %d, %v", s, n, e)
	}
	for i, x := range []struct {
		change func(l []string) []string
		line   int
	}{{func(l []string) []string { l[1] = "table 3"; return l }, 1}, {func(l []string) []string { l[4] = "get 1 a"; return l }, 4}, {func(l []string) []string { return append(l, "pick 0") }, 6}, {func(l []string) []string { return l[:2] }, 2}} {
		if s, n, e := Parse(lines(x.change(slices.Clone(little))...)); n != x.line || e != api.ErrBytes || !Same(s, api.Script{}) {
			t.Errorf("%d: Parse is %d, %v", i, n, e)
		}
	}
}

func TestMayAct(t *testing.T) { // P25.1
	many := []api.Kept{}
	for i := range 65 {
		many = append(many, api.Kept{Name: fmt.Sprint("f", i)})
	}
	for i, x := range []struct {
		a    api.Act
		want bool
	}{
		{api.Act{Kind: 1}, true}, {api.Act{Kind: 1, N: math.MaxInt32}, true}, {api.Act{Kind: 1, N: 1 << 31}, false}, {api.Act{Kind: 1, N: -1}, false}, {api.Act{Kind: 1, Keep: many[:1]}, false}, {api.Act{Kind: 1, Keep: []api.Kept{}}, true},
		{crash(), true}, {api.Act{Kind: 2, N: 1}, false}, {crash(many[:64]...), true}, {crash(many...), false}, {crash(many[1], many[1]), false}, {crash(api.Kept{Name: "a b"}), false}, {crash(api.Kept{}), false}, {crash(api.Kept{Name: "%~!", Loose: math.MaxInt32}), true},
		{crash(api.Kept{Name: "a", Loose: 1 << 31}), false}, {crash(api.Kept{Name: "a", Loose: -1}), false}, {api.Act{}, false}, {api.Act{Kind: 3}, false}, {api.Act{Kind: -1}, false},
	} {
		if MayAct(x.a) != x.want {
			t.Errorf("%d: MayAct is not %v", i, x.want)
		}
	}
}

func TestCheck(t *testing.T) { // P25.1
	good, _, _ := Parse(lines(little...))
	with := func(change func(s *api.Script)) api.Script {
		s := good
		s.Acts = slices.Clone(s.Acts)
		change(&s)
		return s
	}
	long := slices.Repeat(picks(1), api.MaxPicks+1)
	for i, x := range []struct {
		s     api.Script
		place int
		e     api.Errno
	}{
		{good, 0, api.OK}, {with(func(s *api.Script) { s.Job.Width = 2 }), 0, api.ErrArg}, {with(func(s *api.Script) { s.Sessions = nil }), 0, api.ErrArg}, {with(func(s *api.Script) { s.Sessions = [][]api.Txn{{{Ops: []api.Op{op(api.OpGet, 1, "a")}}}} }), 0, api.ErrArg},
		{with(func(s *api.Script) { s.Acts = append(picks(1, 2), api.Act{}, api.Act{}) }), 2, api.ErrArg}, {with(func(s *api.Script) { s.Acts = long }), 0, api.ErrLong}, {with(func(s *api.Script) { s.Acts = long[1:] }), 0, api.OK},
		{with(func(s *api.Script) { s.Acts = append(slices.Clone(long), api.Act{}) }), len(long), api.ErrArg}, {with(func(s *api.Script) { s.Acts = nil }), 0, api.OK}, {api.Script{}, 0, api.ErrArg},
	} {
		if n, e := Check(x.s); n != x.place || e != x.e {
			t.Errorf("%d: Check is %d, %v", i, n, e)
		}
		if s, e := Text(x.s); e != x.e || (s == "") != (e != api.OK) {
			t.Errorf("%d: Text has %d bytes, %v", i, len(s), e)
		}
	}
}

func TestLines(t *testing.T) { // P25.2
	for _, x := range []struct {
		o    api.Op
		want string
	}{
		{op(api.OpGet, 3, "k"), "get 3 k"}, {op(api.OpDelete, 0, "%"), "delete 0 %25"}, {op(api.OpInsert, 1, " \x00~!", "", "a b", "\xff"), "insert 1 %20%00~! % a%20b %FF"}, {span(api.OpScan, 0, 0, "", "", 1), "scan 0 % % 1"},
		{span(api.OpLook, 2, 1, "a", "\x7f", 64), "look 2 1 a %7F 64"}, {op(api.OpPut, 0, "k", "\x1f"), "put 0 k %1F"},
	} {
		if s, e := Line(x.o); s != x.want || e != api.OK {
			t.Errorf("Line is %q, %v; want %q", s, e, x.want)
		}
		if o, e := Unline(x.want); !sameOp(o, x.o) || e != api.OK {
			t.Errorf("Unline of %q is %+v, %v", x.want, o, e)
		}
	}
	for i, o := range []api.Op{{}, op(api.OpGet, 4, "a"), op(api.OpGet, -1, "a"), op(api.OpGet, 0, ""), op(api.OpPut, 0, "a"), op(api.OpPut, 0, "a", "1", "2", "3", "4"), op(api.OpGet, 0, "a", "x"), span(api.OpLook, 0, 2, "", "", 1), span(api.OpScan, 0, 1, "", "", 1), span(api.OpScan, 0, 0, "", "", 65), span(9, 0, 0, "", "", 1)} {
		if s, e := Line(o); s != "" || e != api.ErrArg {
			t.Errorf("%d: Line is %q, %v", i, s, e)
		}
	}
	for _, s := range []string{"", "get", "get 0", "get 00 a", "get +0 a", "get -0 a", "get 4 a", "get 0 %", "get 0 a ", " get 0 a", "get  0 a", "get 0 a b", "get 0 %41", "get 0 %2", "get 0 %zz", "get 0 a%", "get 0 %ff", "get 0 \x80", "get 0 a\n", "Get 0 a", "fly 0 a",
		"put 0 a", "put 0 a ", "put 0 a 1 2 3 4", "put 0 % x", "scan 0 a b", "scan 0 a b 65", "scan 0 a b 0", "scan 0 a b 1 2", "scan 0  b 1", "look 0 2 a b 1", "look 0 a b 1", "pick 1", "scan 0 a b 99999999999999999999", "get 0 " + strings.Repeat("k", 33)} {
		if o, e := Unline(s); !sameOp(o, api.Op{}) || e != api.ErrBytes {
			t.Errorf("Unline of %q is %+v, %v", s, o, e)
		}
	}
}

func TestActs(t *testing.T) { // P25.2
	l := picks(slices.Repeat([]int{7}, 18)...)
	l = append(append(append(l, crash(api.Kept{Name: "b%", Loose: 2}, api.Kept{Name: "a"})), crash()), picks(0, 2147483647)...)
	seven := "pick" + strings.Repeat(" 7", 16)
	want := []string{seven, "pick 7 7", "crash b% 2 a 0", "crash", "pick 0 2147483647"}
	all := Acts(l)
	l[0].N = 5 // as they are when it begins
	for range 2 {
		got := slices.Collect(all)
		if got[0] = strings.Replace(got[0], "5", "7", 1); !slices.Equal(got, want) {
			t.Errorf("Acts are %q", got)
		}
	}
	for range all {
		break
	}
	if got := slices.Collect(Acts(append(picks(1, 2), api.Act{N: 5}, crash()))); !slices.Equal(got, []string{"pick 1 2"}) {
		t.Errorf("Acts are %q", got)
	}
	if got := slices.Collect(Acts(nil)); got != nil {
		t.Errorf("Acts are %q", got)
	}
	for _, line := range want {
		l, e := Unact(line)
		if got := slices.Collect(Acts(l)); !slices.Equal(got, []string{line}) || e != api.OK {
			t.Errorf("Unact of %q is %v, %v", line, l, e)
		}
	}
	files := ""
	for i := range 65 {
		files += fmt.Sprint(" f", i, " 0")
	}
	for _, s := range []string{"", "pick", "pick ", "pick -1", "pick 01", "pick 2147483648", seven + " 7", "pick 1 a", "pick 1  2", "pick 1 2 ", " pick 1", "crash ", "crash a", "crash a 1 a 2", "crash a 01", "crash a 1 b", "crash a 2147483648", "crash  1", "crash " + strings.Repeat("n", 25) + " 1", "crash\n", "get 0 a", "crash" + files, "pick 99999999999999999999"} {
		if l, e := Unact(s); l != nil || e != api.ErrBytes {
			t.Errorf("Unact of %q is %v, %v", s, l, e)
		}
	}
	if l, e := Unact("crash" + files[:len(files)-6]); len(l) != 1 || len(l[0].Keep) != 64 || e != api.OK {
		t.Errorf("Unact of 64 files: %v", e)
	}
}

func TestWrongLines(t *testing.T) { // P25.3
	base := []string{"job 2 1 3 1024 1024 1", "table 2", "table 0", "worker", "txn", "get 0 a", "worker", "snapshot", "scan 0 % % 5", "pick 1 2", "crash", "pick 3"}
	if s, n, e := Parse(lines(base...)); n != 0 || e != api.OK || len(s.Acts) != 4 || !s.Sessions[1][0].Snapshot {
		t.Fatalf("Parse is %+v, %d, %v", s, n, e)
	}
	at := func(i int, l ...string) []string { return slices.Insert(slices.Clone(base), i, l...) }
	as := func(i int, line string) []string { c := slices.Clone(base); c[i] = line; return c }
	group := "pick" + strings.Repeat(" 1", 16)
	for i, x := range []struct {
		l    []string
		line int
	}{
		{at(0, ""), 0}, {at(3, ""), 3}, {at(0, "table 0"), 0}, {at(0, "fly"), 0}, {at(1, base[0]), 1}, {at(12, base[0]), 12}, {at(4, "table 0"), 4}, {at(12, "table 0"), 12}, {at(1, "worker"), 1}, {at(3, "txn"), 3}, {at(3, "get 0 a"), 3}, {at(4, "get 0 a"), 4}, {at(7, "get 0 a"), 7},
		{at(12, "worker"), 12}, {at(10, "txn"), 10}, {at(10, "get 0 a"), 10}, {at(6, "pick 1"), 6}, {at(3, "crash"), 3}, {at(0, "pick 1"), 0}, {at(9, "worker"), 9}, {at(3, "table 0", "table 0", "table 0"), 5}, {at(10, "pick 1"), 10}, {at(12, group), 12},
		{as(0, "job 0 1 3 1024 1024 1"), 0}, {as(0, "job 2 3 3 1024 1024 1"), 0}, {as(0, "job 2 1 2 1024 1024 1"), 0}, {as(0, "job 2 1 3 1023 1024 1"), 0}, {as(0, "job 2 1 3 1024 1024 0"), 0}, {as(0, "job 2 1 3 1024 1024"), 0}, {as(0, "job 2 1 3 1024 1024 1 1"), 0}, {as(0, "job 02 1 3 1024 1024 1"), 0},
		{as(1, "table 3"), 1}, {as(1, "table -1"), 1}, {as(1, "table"), 1}, {as(1, "table 0 0"), 1}, {as(3, "worker "), 3}, {as(3, "worker 1"), 3}, {as(4, "txn 1"), 4}, {as(5, "get 2 a"), 5}, {as(5, "look 1 0 % % 1"), 5}, {as(8, "put 0 a x"), 8}, {as(8, "delete 0 a"), 8}, {as(9, "pick"), 9}, {as(10, "crash a"), 10},
		{base[:1], 1}, {base[:3], 3}, {base[:6], 6}, {base[:0], 0},
	} {
		text := lines(x.l...)
		if len(x.l) == 0 {
			text = ""
		}
		if s, n, e := Parse(text); n != x.line || e != api.ErrBytes || !Same(s, api.Script{}) {
			t.Errorf("%d: Parse is %d, %v; want %d", i, n, e, x.line)
		}
	}
	if _, n, e := Parse(strings.TrimSuffix(lines(base...), "\n")); n != 11 || e != api.ErrBytes {
		t.Errorf("without a byte 10: %d, %v", n, e)
	}
	if _, n, e := Parse(lines(base[:8]...)); n != 0 || e != api.OK {
		t.Errorf("without acts: %d, %v", n, e)
	}
	many := func(line string, n int) []string { return slices.Repeat([]string{line}, n) }
	if _, n, e := Parse(lines(slices.Concat(base[:4], many("txn", 64), base[6:])...)); n != 0 || e != api.OK {
		t.Errorf("64 transactions: %d, %v", n, e)
	}
	if _, n, e := Parse(lines(slices.Concat(base[:4], many("txn", 65), base[6:])...)); n != 68 || e != api.ErrBytes {
		t.Errorf("65 transactions: %d, %v", n, e)
	}
	if _, n, e := Parse(lines(slices.Concat(base[:5], many("get 0 a", 17), base[6:])...)); n != 21 || e != api.ErrBytes {
		t.Errorf("17 calls: %d, %v", n, e)
	}
	full := many(group, api.MaxPicks/16)
	if s, n, e := Parse(lines(slices.Concat(base[:9], full)...)); n != 0 || e != api.OK || len(s.Acts) != api.MaxPicks {
		t.Errorf("%d acts: %d, %v", len(s.Acts), n, e)
	}
	if _, n, e := Parse(lines(slices.Concat(base[:9], full, many("crash", 1))...)); n != 9+len(full) || e != api.ErrBytes {
		t.Errorf("an act more: %d, %v", n, e)
	}
	if _, n, e := Parse(strings.Repeat("\n", api.MaxScript+1)); n != 0 || e != api.ErrLong {
		t.Errorf("a long text: %d, %v", n, e)
	}
	if _, n, e := Parse(strings.Repeat("\n", api.MaxScript)); n != 0 || e != api.ErrBytes {
		t.Errorf("a text that is not too long: %d, %v", n, e)
	}
	s, _, _ := Parse(lines(base...))
	s.Acts = slices.Repeat([]api.Act{crash(api.Kept{Name: strings.Repeat("n", 24), Loose: 1000000})}, 30000)
	if text, e := Text(s); text != "" || e != api.ErrLong {
		t.Errorf("Text has %d bytes, %v", len(text), e)
	}
}

func TestSame(t *testing.T) { // P25.4
	text := lines("job 1 1 3 1024 1024 1", "table 1", "worker", "txn", "put 0 a x y", "look 0 0 a b 3", "abort", "pick 1 2", "crash f 1")
	a, _, e := Parse(text)
	if e != api.OK || !Same(a, a) || !Same(api.Script{}, api.Script{Sessions: [][]api.Txn{}, Acts: []api.Act{}}) {
		t.Fatalf("Parse: %v", e)
	}
	for i, change := range []func(s *api.Script){
		func(s *api.Script) { s.Job.Workers = 2 }, func(s *api.Script) { s.Job.Every = 2 }, func(s *api.Script) { s.Job.Tables = []int{2} }, func(s *api.Script) { s.Sessions[0][0].Ops[0].Key[0] = 'b' }, func(s *api.Script) { s.Sessions[0][0].Ops[0].Row[1] = nil },
		func(s *api.Script) { s.Sessions[0][0].Ops[1].To = nil }, func(s *api.Script) { s.Sessions[0][0].Ops[1].Most = 4 }, func(s *api.Script) { s.Sessions[0][1].Abort = false }, func(s *api.Script) { s.Sessions[0][1].Snapshot = true }, func(s *api.Script) { s.Sessions[0] = s.Sessions[0][:1] },
		func(s *api.Script) { s.Acts[0].N = 3 }, func(s *api.Script) { s.Acts[2].Keep[0].Loose = 2 }, func(s *api.Script) { s.Acts[2].Keep[0].Name = "g" }, func(s *api.Script) { s.Acts = s.Acts[:2] }, func(s *api.Script) { s.Sessions = nil }, func(s *api.Script) { s.Acts[0].Kind = 2 },
		func(s *api.Script) { s.Sessions[0][0].Ops[1].Index = 1 }, func(s *api.Script) { s.Sessions[0][0].Ops[1].Table = 1 }, func(s *api.Script) { s.Sessions[0][0].Ops[0].Kind = api.OpInsert },
	} {
		b, _, _ := Parse(text)
		if change(&b); Same(a, b) || Same(b, a) {
			t.Errorf("%d: they are the same", i)
		}
	}
}

func TestThereAndBack(t *testing.T) { // P25.4, P0.9, P0.10
	r := rand.New(rand.NewSource(1))
	some := func(least, most int) []byte {
		b := make([]byte, least+r.Intn(most-least+1))
		for i := range b {
			b[i] = []byte{0, ' ', '%', 'a', '!', '~', 127, 255, '\n'}[r.Intn(9)]
		}
		return b
	}
	texts := map[string]bool{}
	for n := range 400 {
		s := api.Script{Job: api.Job{Workers: 1 + r.Intn(4), Loggers: 1, Width: 3 + r.Intn(13), Cells: 1024 + r.Intn(60000), Disk: 1024 + r.Intn(60000), Every: 1 + r.Intn(100)}}
		for range 1 + r.Intn(4) {
			s.Job.Tables = append(s.Job.Tables, r.Intn(3))
		}
		for range s.Job.Workers {
			var session []api.Txn
			for range r.Intn(4) {
				x := api.Txn{Abort: r.Intn(4) == 0}
				x.Snapshot = !x.Abort && r.Intn(4) == 0
				for range r.Intn(5) {
					table := r.Intn(len(s.Job.Tables))
					o := op(api.OpGet, table, string(some(1, 32)))
					switch k := r.Intn(5); {
					case k == 0 && !x.Snapshot:
						o.Kind = []api.OpKind{api.OpPut, api.OpInsert}[r.Intn(2)]
						for range 1 + r.Intn(3) {
							o.Row = append(o.Row, some(0, 24))
						}
					case k == 1 && !x.Snapshot:
						o.Kind = api.OpDelete
					case k == 2:
						o = span(api.OpScan, table, 0, string(some(0, 32)), string(some(0, 32)), 1+r.Intn(64))
					case k == 3 && s.Job.Tables[table] > 0:
						o = span(api.OpLook, table, r.Intn(s.Job.Tables[table]), string(some(0, 24)), string(some(0, 24)), 1+r.Intn(64))
					}
					x.Ops = append(x.Ops, o)
				}
				session = append(session, x)
			}
			s.Sessions = append(s.Sessions, session)
		}
		for range r.Intn(40) {
			if r.Intn(9) == 0 {
				s.Acts = append(s.Acts, crash([]api.Kept{{Name: "log.1.0", Loose: r.Intn(99)}, {Name: "%", Loose: 1}}[:r.Intn(3)]...))
			} else {
				s.Acts = append(s.Acts, picks(r.Intn(99))...)
			}
		}
		text, e := Text(s)
		back, _, bad := Parse(text)
		if e != api.OK || bad != api.OK || !Same(s, back) {
			t.Fatalf("%d: %v, %v: %s", n, e, bad, text)
		}
		if texts[text] {
			t.Fatalf("two scripts have one text: %s", text)
		}
		texts[text] = true
		b := []byte(text) // any bytes are a script, whose text they are, or refused
		for range 1 + r.Intn(2) {
			i := r.Intn(len(b))
			switch r.Intn(3) {
			case 0:
				b[i] = "0123 %\nabz"[r.Intn(10)]
			case 1:
				b = slices.Delete(b, i, i+1)
			default:
				b = slices.Insert(b, i, "01 %\na"[r.Intn(6)])
			}
		}
		if x, n, e := Parse(string(b)); e == api.OK {
			if again, e := Text(x); again != string(b) || e != api.OK {
				t.Fatalf("%q was read, and is written %q", b, again)
			}
		} else if e != api.ErrBytes || n > strings.Count(string(b), "\n") {
			t.Fatalf("%q: %d, %v", b, n, e)
		}
	}
}
