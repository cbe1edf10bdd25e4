package log

import (
	"bytes"
	"encoding/hex"
	"math"
	"math/rand"
	"reflect"
	"slices"
	"strconv"
	"strings"
	"testing"

	"garner/api"
	"garner/crc"
)

func put(t *testing.T, b []byte, e api.Errno) []byte {
	t.Helper()
	if e != api.OK || len(b) == 0 {
		t.Fatalf("it is put as % x, %v", b, e)
	}
	return b
}

func refused(t *testing.T, what string, b []byte, e, want api.Errno) {
	t.Helper()
	if b != nil || e != want {
		t.Errorf("%s is % x, %v; want %v", what, b, e, want)
	}
}

func of(fields ...string) api.Row {
	var r api.Row
	for _, f := range fields {
		r = append(r, []byte(f))
	}
	return r
}

func wr(table int, key string, r api.Row) api.Write {
	return api.Write{Table: table, Key: []byte(key), Row: r}
}

func logged(epoch, seq int64, l ...api.Write) api.Logged {
	return api.Logged{TID: api.TID{Epoch: epoch, Seq: seq}, Writes: l}
}

func TestFrame(t *testing.T) { // P15.1
	a := []byte("a")
	b, e := Frame(a)
	sum := crc.Sum(a)
	want := []byte{0, 0, 0, 1, byte(sum >> 24), byte(sum >> 16), byte(sum >> 8), byte(sum), 'a'}
	if !bytes.Equal(b, want) || e != api.OK {
		t.Errorf("Frame is % x, %v", b, e)
	}
	b, e = Frame(nil)
	refused(t, "Frame of none", b, e, api.ErrArg)
	b, e = Frame(make([]byte, 4097))
	refused(t, "Frame of many", b, e, api.ErrLong)
	if b, e := Frame(make([]byte, 4096)); len(b) != 4104 || b[2] != 16 || e != api.OK {
		t.Errorf("Frame of 4096 bytes has %d, %v", len(b), e)
	}
}

func payloads(b []byte) []string {
	var l []string
	for p := range Frames(b) {
		l = append(l, string(p))
	}
	return l
}

func TestFrames(t *testing.T) { // P15.1
	x, _ := Frame([]byte("x"))
	yz, _ := Frame([]byte("yz"))
	both := slices.Concat(x, yz)
	for n := range len(both) + 1 {
		want := []string{"x", "yz"}
		whole := len(both)
		switch {
		case n < len(x):
			want, whole = nil, 0
		case n < len(both):
			want, whole = []string{"x"}, len(x)
		}
		if got := payloads(both[:n]); !slices.Equal(got, want) || Whole(both[:n]) != whole {
			t.Errorf("the first %d bytes: %q, %d", n, got, Whole(both[:n]))
		}
	}
	for i := range both { // any byte that is another one
		b := bytes.Clone(both)
		b[i] ^= 64
		if got := payloads(b); len(got) > 1 || i < len(x) && len(got) > 0 {
			t.Errorf("with another byte %d: %q", i, got)
		}
	}
	for _, b := range [][]byte{nil, make([]byte, 8), make([]byte, 100), slices.Concat([]byte{0, 0, 0x10, 1}, make([]byte, 4200)), slices.Concat([]byte{255, 255, 255, 255}, make([]byte, 50))} {
		if payloads(b) != nil || Whole(b) != 0 {
			t.Errorf("% x has frames", b)
		}
	}
	all := Frames(both)
	both[len(both)-1] = 'q' // as they are when it begins
	n := 0
	for range 2 {
		for p := range all {
			p[0] = 'q'
			n++
		}
	}
	if n != 2 {
		t.Errorf("there are %d", n)
	}
	for range all {
		break
	}
}

func TestTxns(t *testing.T) { // P15.2
	one := logged(1, 2, wr(0, "k", of("a")))
	b, e := PutTxn(one)
	if want, _ := Frame([]byte("\x01\x02\x01\x00\x01k\x01\x03\x01\x01a")); !bytes.Equal(b, want) || e != api.OK {
		t.Errorf("PutTxn is % x, %v", b, e)
	}
	two := logged(api.MaxEpoch, api.MaxSeq, wr(0, "k", nil), wr(0, "kk", of("x", "b", "c")), wr(3, "a", nil))
	c := put(t, b, e)
	d, e := PutTxn(two)
	put(t, d, e)
	l, n, whole := Txns(slices.Concat(c, d, c[:len(c)/2]))
	if !reflect.DeepEqual(l, []api.Logged{one, two}) || n != len(c)+len(d) || !whole {
		t.Errorf("Txns is %v, %d, %v", l, n, whole)
	}
	none, _ := Frame([]byte{0})
	if l, n, whole := Txns(none); l != nil || n != 0 || whole {
		t.Errorf("Txns is %v, %d, %v", l, n, whole)
	}
	if l, n, whole := Txns(slices.Concat(c, none, c)); len(l) != 1 || n != len(c) || whole {
		t.Errorf("Txns is %v, %d, %v", l, n, whole)
	}
	if l, n, whole := Txns([]byte("no frames")); l != nil || n != 0 || !whole {
		t.Errorf("Txns is %v, %d, %v", l, n, whole)
	}
	for _, p := range []string{"\x00\x02\x01\x00\x01k\x00", "\x01\x00\x01\x00\x01k\x00", "\x01\x02\x00", "\x01\x02\x01\x04\x01k\x00", "\x01\x02\x01\x00\x00\x00", "\x01\x02\x01\x00\x01k\x01\x01\x00", "\x01\x02\x01\x00\x01k\x02",
		"\x01\x02\x01\x00\x01k\x00\x00", "\x01\x02\x02\x00\x01k\x00\x00\x01k\x00", "\x01\x02\x02\x01\x01a\x00\x00\x01k\x00", "\x01", "\x81\x80\x80\x08\x01\x01\x00\x01k\x00", "\x01\x02\x01\x00\x01k\x01\x03\x01\x01", "\x01\x02\x01\x00\x01k\x01\x04\x01\x01ab"} {
		f, _ := Frame([]byte(p))
		if l, n, whole := Txns(f); l != nil || n != 0 || whole {
			t.Errorf("Txns of %q is %v, %d, %v", p, l, n, whole)
		}
	}
}

func TestMayTxn(t *testing.T) { // P15.2, P15.5
	ok := wr(0, "k", of("a"))
	many := []api.Write{}
	for i := range 17 {
		many = append(many, wr(1, string(rune('a'+i)), nil))
	}
	for i, x := range []struct {
		t    api.Logged
		want bool
	}{
		{logged(1, 1, ok), true}, {logged(0, 1, ok), false}, {logged(1, 0, ok), false}, {logged(-1, 1, ok), false}, {logged(1<<24, 1, ok), false}, {logged(1, 1<<31, ok), false}, {logged(math.MinInt64, math.MaxInt64, ok), false},
		{logged(1, 1), false}, {logged(1, 1, wr(0, "b", nil), wr(0, "a", nil)), false}, {logged(1, 1, wr(0, "b", nil), wr(1, "a", nil)), true}, {logged(1, 1, wr(1, "a", nil), wr(0, "b", nil)), false},
		{logged(1, 1, ok, ok), false}, {logged(1, 1, many[:16]...), true}, {logged(1, 1, many...), false}, {logged(1, 1, wr(4, "a", nil)), false}, {logged(1, 1, wr(-1, "a", nil)), false}, {logged(1, 1, wr(math.MaxInt, "a", nil)), false},
		{logged(1, 1, wr(0, "", nil)), false}, {logged(1, 1, wr(0, strings.Repeat("k", 33), nil)), false}, {logged(1, 1, wr(3, strings.Repeat("k", 32), api.Row{})), true},
		{logged(1, 1, wr(0, "a", of("a", "b", "c", "d"))), false}, {logged(1, 1, wr(0, "a", of(strings.Repeat("x", 25)))), false}, {logged(1, 1, wr(0, "a", of(""))), true},
	} {
		if MayTxn(x.t) != x.want {
			t.Errorf("%d: MayTxn is not %v", i, x.want)
		}
		b, e := PutTxn(x.t)
		if x.want {
			put(t, b, e)
		} else {
			refused(t, strconv.Itoa(i), b, e, api.ErrArg)
		}
		if len(x.t.Writes) == 1 && within(x.t.TID.Epoch, 1, 1) && within(x.t.TID.Seq, 1, 1) && MayWrite(x.t.Writes[0]) != x.want {
			t.Errorf("%d: MayWrite is not %v", i, x.want)
		}
	}
	for _, x := range []struct {
		a, b api.TID
		want bool
	}{{api.TID{Epoch: 1, Seq: 9}, api.TID{Epoch: 2, Seq: 1}, true}, {api.TID{Epoch: 2, Seq: 1}, api.TID{Epoch: 1, Seq: 9}, false}, {api.TID{Epoch: 1, Seq: 1}, api.TID{Epoch: 1, Seq: 2}, true}, {api.TID{Epoch: 1, Seq: 1}, api.TID{Epoch: 1, Seq: 1}, false}} {
		if Less(x.a, x.b) != x.want {
			t.Errorf("Less(%v, %v) is not %v", x.a, x.b, x.want)
		}
	}
}

func st(key string, epoch int64) api.Stored {
	return api.Stored{Key: []byte(key), Row: of("r" + key), TID: api.TID{Epoch: epoch, Seq: 7}}
}

func TestCheckpoints(t *testing.T) { // P15.3
	full := api.Checkpoint{Epoch: 9, Tables: [][]api.Stored{{st("a", 1), st("b", 9)}, nil, {st("a", 2)}}}
	for _, c := range []api.Checkpoint{{}, {Epoch: api.MaxEpoch}, {Epoch: 3, Tables: make([][]api.Stored, 4)}, full} {
		b, e := PutCheckpoint(c)
		put(t, b, e)
		if got, e := ReadCheckpoint(b); !reflect.DeepEqual(got, c) || e != api.OK {
			t.Errorf("%v is read as %v, %v", c, got, e)
		}
		for n := range b {
			if got, e := ReadCheckpoint(b[:n]); e != api.ErrBytes || got.Tables != nil || got.Epoch != 0 {
				t.Errorf("the first %d bytes are read as %v, %v", n, got, e)
			}
		}
		if _, e := ReadCheckpoint(append(bytes.Clone(b), 0)); e != api.ErrBytes {
			t.Errorf("with a byte behind it: %v", e)
		}
	}
	b, _ := PutCheckpoint(full)
	want := slices.Concat(frame("\x09\x03\x02\x00\x01"), frame("\x00\x01a\x04\x01\x02ra\x01\x07"), frame("\x00\x01b\x04\x01\x02rb\x09\x07"), frame("\x02\x01a\x04\x01\x02ra\x02\x07"))
	if !bytes.Equal(b, want) {
		t.Errorf("PutCheckpoint is %s", hex.Dump(b))
	}
	long := make([]api.Stored, 4097)
	for i := range long {
		long[i] = st(string([]byte{byte(i >> 8), byte(i)}), 1)
	}
	if b, e := PutCheckpoint(api.Checkpoint{Epoch: 1, Tables: [][]api.Stored{long[:4096]}}); e != api.OK {
		t.Errorf("%d bytes, %v", len(b), e)
	} else if c, e := ReadCheckpoint(b); len(c.Tables[0]) != 4096 || e != api.OK {
		t.Errorf("%d rows, %v", len(c.Tables[0]), e)
	}
	b, e := PutCheckpoint(api.Checkpoint{Epoch: 1, Tables: [][]api.Stored{long[:4000], long[4000:]}})
	refused(t, "more rows", b, e, api.ErrLong)
	b, e = PutCheckpoint(api.Checkpoint{Epoch: 0, Tables: [][]api.Stored{long}})
	refused(t, "ErrArg is ahead", b, e, api.ErrArg)
	bad := st("a", 1)
	bad.Row = nil
	for i, c := range []api.Checkpoint{{Epoch: -1}, {Epoch: 1 << 24}, {Tables: make([][]api.Stored, 5)}, {Epoch: 5, Tables: [][]api.Stored{{st("b", 1), st("a", 1)}}}, {Epoch: 5, Tables: [][]api.Stored{{st("a", 1), st("a", 1)}}},
		{Epoch: 5, Tables: [][]api.Stored{{st("a", 6)}}}, {Epoch: 5, Tables: [][]api.Stored{{st("a", 0)}}}, {Epoch: 5, Tables: [][]api.Stored{{st("", 1)}}}, {Epoch: 5, Tables: [][]api.Stored{{bad}}}} {
		b, e := PutCheckpoint(c)
		refused(t, strconv.Itoa(i), b, e, api.ErrArg)
	}
}

func frame(p string) []byte {
	b, _ := Frame([]byte(p))
	return b
}

func TestNoCheckpoints(t *testing.T) { // P15.3, P15.6
	head, a, b := frame("\x09\x02\x01\x01"), frame("\x00\x01a\x04\x01\x02ra\x01\x07"), frame("\x01\x01b\x04\x01\x02rb\x09\x07")
	if _, e := ReadCheckpoint(slices.Concat(head, a, b)); e != api.OK {
		t.Errorf("%v", e)
	}
	for i, l := range [][][]byte{{}, {head}, {head, a}, {head, b, a}, {head, a, b, b}, {a, b}, {head, head, a, b}, {frame("\x09"), a, b}, {frame("\x09\x02\x01"), a, b}, {frame("\x09\x05\x00\x00\x00\x00\x00")}, {frame("\x00")},
		{frame("\x08\x02\x01\x01"), a, b}, {frame("\x09\x02\x01\x01\x00"), a, b}, {frame("\x09\x02\x02\x00"), a, b}, {frame("\x09\x02\x01\xff\xff\xff\x7f"), a, b}, {head, a, frame("\x01\x01b\x04\x01\x02rb\x00\x07")}, {head, a, frame("\x01\x01b\x04\x01\x02rb\x09\x07\x00")},
		{head, frame("\x05\x01a\x04\x01\x02ra\x01\x07"), b}} {
		if c, e := ReadCheckpoint(slices.Concat(l...)); e != api.ErrBytes || c.Tables != nil || c.Epoch != 0 {
			t.Errorf("%d: %v, %v", i, c, e)
		}
	}
}

func lp(name string, to int64) api.LogPart { return api.LogPart{Name: name, To: to} }

func TestManifests(t *testing.T) { // P15.4
	full := api.Manifest{Generation: api.MaxNumber, Name: "check.1.5", Epoch: 5, Floor: 9, Logs: []api.LogPart{lp("log.1.0", 9), lp("log.1.1", 0)}}
	many := api.Manifest{Generation: 1, Floor: 3}
	for i := range 33 {
		many.Logs = append(many.Logs, lp("l"+strconv.Itoa(i), 3))
	}
	less := many
	less.Logs = many.Logs[:32]
	for _, m := range []api.Manifest{{Generation: 1}, {Generation: 1, Floor: api.MaxEpoch}, {Generation: 2, Name: "c"}, full, less} {
		b, e := PutManifest(m)
		put(t, b, e)
		if got, e := ReadManifest(b); !reflect.DeepEqual(got, m) || e != api.OK {
			t.Errorf("%v is read as %v, %v", m, got, e)
		}
		for _, x := range [][]byte{nil, b[:len(b)-1], append(bytes.Clone(b), 0), slices.Concat(b, b)} {
			if got, e := ReadManifest(x); e != api.ErrBytes || got.Generation != 0 || got.Logs != nil {
				t.Errorf("% x is read as %v, %v", x, got, e)
			}
		}
	}
	if b, _ := PutManifest(full); !bytes.Equal(b, frame("\xff\xff\xff\xff\x07\x09check.1.5\x05\x09\x02\x07log.1.0\x09\x07log.1.1\x00")) {
		t.Errorf("PutManifest is %s", hex.Dump(b))
	}
	for i, m := range []api.Manifest{{}, {Generation: -1}, {Generation: 1 << 31}, {Generation: 1, Epoch: 3, Floor: 3}, {Generation: 1, Name: "c", Epoch: 3, Floor: 2}, {Generation: 1, Name: "a b"}, {Generation: 1, Name: strings.Repeat("c", 25)},
		{Generation: 1, Floor: 1 << 24}, {Generation: 1, Floor: -1}, {Generation: 1, Name: "c", Epoch: -1}, {Generation: 1, Floor: 3, Logs: []api.LogPart{lp("l", 4)}}, {Generation: 1, Floor: 3, Logs: []api.LogPart{lp("l", -1)}},
		{Generation: 1, Floor: 3, Logs: []api.LogPart{lp("l", 1), lp("l", 2)}}, {Generation: 1, Logs: []api.LogPart{lp("", 0)}}, many} {
		b, e := PutManifest(m)
		refused(t, strconv.Itoa(i), b, e, api.ErrArg)
	}
	for _, p := range []string{"\x00\x00\x00\x00\x00", "\x01\x00\x03\x03\x00", "\x01\x00\x00\x00\x02\x01l\x00\x01l\x00", "\x01\x00\x00\x00", "\x01\x00\x00\x00\x00\x00", "\x01\x19" + strings.Repeat("c", 25) + "\x00\x00\x00", "\x01\x00\x00\x01\x01\x01l\x02"} {
		if m, e := ReadManifest(frame(p)); e != api.ErrBytes || m.Generation != 0 {
			t.Errorf("%q is read as %v, %v", p, m, e)
		}
	}
	for _, d := range []api.Durable{{Generation: 1}, {Generation: api.MaxNumber, Epoch: api.MaxEpoch}} {
		b, e := PutDurable(d)
		put(t, b, e)
		if got, e := ReadDurable(b); got != d || e != api.OK {
			t.Errorf("%v is read as %v, %v", d, got, e)
		}
		if got, e := ReadDurable(append(b, 0)); got != (api.Durable{}) || e != api.ErrBytes {
			t.Errorf("%v is read as %v, %v", d, got, e)
		}
	}
	for _, d := range []api.Durable{{}, {Generation: 0, Epoch: 1}, {Generation: 1 << 31}, {Generation: 1, Epoch: -1}, {Generation: 1, Epoch: 1 << 24}} {
		b, e := PutDurable(d)
		refused(t, "PutDurable", b, e, api.ErrArg)
	}
	for _, p := range []string{"\x00\x00", "\x01", "\x01\x00\x00", "\x01\x80\x80\x80\x08"} {
		if d, e := ReadDurable(frame(p)); d != (api.Durable{}) || e != api.ErrBytes {
			t.Errorf("%q is read as %v, %v", p, d, e)
		}
	}
}

func TestNames(t *testing.T) { // P15.5
	for _, x := range []struct {
		g, n int64
		log  string
		chk  string
	}{{1, 0, "log.1.0", "check.1.0"}, {api.MaxNumber, 1, "log.2147483647.1", "check.2147483647.1"}, {2, 2, "", "check.2.2"}, {0, 0, "", ""}, {1 << 31, 0, "", ""}, {1, -1, "", ""}, {5, api.MaxEpoch, "", "check.5.16777215"}, {5, 1 << 24, "", ""}} {
		got, e := LogName(x.g, int(x.n))
		if got != x.log || (e == api.OK) != (x.log != "") || e != api.OK && e != api.ErrArg {
			t.Errorf("LogName(%d, %d) is %q, %v", x.g, x.n, got, e)
		}
		got, e = CheckName(x.g, x.n)
		if got != x.chk || (e == api.OK) != (x.chk != "") || e != api.OK && e != api.ErrArg {
			t.Errorf("CheckName(%d, %d) is %q, %v", x.g, x.n, got, e)
		}
	}
	for s, want := range map[string]bool{"": false, "a": true, "a b": false, "!~%": true, "\x7f": false, "\x80": false, strings.Repeat("n", 24): true, strings.Repeat("n", 25): false, "ä": false} {
		if MayName(s) != want {
			t.Errorf("MayName(%q) is not %v", s, want)
		}
	}
}

func TestNext(t *testing.T) { // P15.5
	m := api.Manifest{Generation: 4, Name: "c", Epoch: 5, Floor: 9, Logs: []api.LogPart{lp("a", 9), lp("b", 5), lp("d", 6)}}
	n, e := Next(m, 7, lp("o", 6), lp("p", 5))
	want := api.Manifest{Generation: 5, Name: "c", Epoch: 5, Floor: 9, Logs: []api.LogPart{lp("a", 9), lp("d", 6), lp("o", 6)}}
	if !reflect.DeepEqual(n, want) || e != api.OK {
		t.Errorf("Next is %v, %v", n, e)
	}
	n, e = Next(api.Manifest{}, 0)
	if !reflect.DeepEqual(n, api.Manifest{Generation: 1}) || e != api.OK {
		t.Errorf("Next of a zero one is %v, %v", n, e)
	}
	n, e = Next(api.Manifest{Logs: []api.LogPart{}}, 12, lp("o", 12))
	if !reflect.DeepEqual(n, api.Manifest{Generation: 1, Floor: 12, Logs: []api.LogPart{lp("o", 12)}}) || e != api.OK {
		t.Errorf("Next is %v, %v", n, e)
	}
	for i, x := range []struct {
		m     api.Manifest
		floor int64
		own   []api.LogPart
	}{{api.Manifest{Generation: api.MaxNumber}, 0, nil}, {api.Manifest{Epoch: 1}, 1, nil}, {api.Manifest{Generation: 1, Floor: -1}, 0, nil}, {m, 1 << 24, nil}, {m, 0, []api.LogPart{lp("a", 6)}}, {m, 0, []api.LogPart{lp("o", 10)}}, {m, 0, []api.LogPart{lp("", 6)}},
		{api.Manifest{Generation: 1, Floor: 1}, 1, func() (l []api.LogPart) {
			for i := range 33 {
				l = append(l, lp(strconv.Itoa(i), 1))
			}
			return
		}()}} {
		if n, e := Next(x.m, x.floor, x.own...); e != api.ErrArg || n.Generation != 0 || n.Logs != nil {
			t.Errorf("%d: Next is %v, %v", i, n, e)
		}
	}
	l, e := Needless(m, "x", "manifest", "durable", "durable.new", "manifest.new", "c", "a", "b", "d", "log.4.0", "log.4.1", "log.4.2", "log.3.0", "x", "")
	if !slices.Equal(l, []string{"x", "manifest.new", "log.4.2", "log.3.0", "x", ""}) || e != api.OK {
		t.Errorf("Needless is %v, %v", l, e)
	}
	if l, e := Needless(api.Manifest{}, "x"); l != nil || e != api.ErrArg {
		t.Errorf("Needless is %v, %v", l, e)
	}
	if l, e := Needless(api.Manifest{Generation: 1}, ""); !slices.Equal(l, []string{""}) || e != api.OK {
		t.Errorf("Needless is %v, %v", l, e)
	}
}

func TestThereAndBack(t *testing.T) { // P15.6, P0.6, P0.9, P0.10
	r := rand.New(rand.NewSource(1))
	some := func(most int) []byte {
		b := make([]byte, r.Intn(most+1))
		r.Read(b)
		return b
	}
	for range 400 {
		var all []byte
		var l []api.Logged
		for range r.Intn(5) {
			x := logged(1+r.Int63n(api.MaxEpoch), 1+r.Int63n(api.MaxSeq))
			for i := range 1 + r.Intn(16) {
				w := api.Write{Table: i / 4, Key: append([]byte{byte(i)}, some(31)...)}
				for range r.Intn(4) {
					w.Row = append(w.Row, append([]byte{}, some(24)...))
				}
				x.Writes = append(x.Writes, w)
			}
			b, e := PutTxn(x)
			l, all = append(l, x), append(all, put(t, b, e)...)
		}
		torn, _ := PutTxn(logged(1, 1, wr(0, "k", of("a"))))
		got, n, whole := Txns(slices.Concat(all, torn[:r.Intn(len(torn))]))
		if len(got) != len(l) || n != len(all) || !whole {
			t.Fatalf("%d transactions are %d, %d bytes are %d, %v", len(l), len(got), len(all), n, whole)
		}
		var again []byte
		for i, x := range got {
			b, _ := PutTxn(x)
			if again = append(again, b...); !reflect.DeepEqual(x.TID, l[i].TID) || len(x.Writes) != len(l[i].Writes) {
				t.Fatalf("%v is read as %v", l[i], x)
			}
		}
		if !bytes.Equal(again, all) {
			t.Fatal("what was read is put otherwise")
		}
		p := some(12) // any bytes are a form, or refused
		if len(p) == 0 {
			continue
		}
		for i := range p {
			p[i] &= 3
		}
		f := frame(string(p))
		if l, _, ok := Txns(f); ok {
			if b, _ := PutTxn(l[0]); !bytes.Equal(b, f) {
				t.Fatalf("%q is read as %v", p, l)
			}
		}
		if m, e := ReadManifest(f); e == api.OK {
			if b, _ := PutManifest(m); !bytes.Equal(b, f) {
				t.Fatalf("%q is read as %v", p, m)
			}
		}
		if c, e := ReadCheckpoint(f); e == api.OK {
			if b, _ := PutCheckpoint(c); !bytes.Equal(b, f) {
				t.Fatalf("%q is read as %v", p, c)
			}
		}
		if d, e := ReadDurable(f); e == api.OK {
			if b, _ := PutDurable(d); !bytes.Equal(b, f) {
				t.Fatalf("%q is read as %v", p, d)
			}
		}
	}
}
