package row

import (
	"bytes"
	"math"
	"math/rand"
	"slices"
	"strings"
	"testing"

	"garner/api"
)

func of(fields ...string) api.Row {
	var r api.Row
	for _, f := range fields {
		r = append(r, []byte(f))
	}
	return r
}

var long = strings.Repeat("x", 25)

func TestMay(t *testing.T) { // P13.1
	for _, x := range []struct {
		r    api.Row
		want bool
	}{
		{nil, false}, {api.Row{}, false}, {of(""), true}, {of("", "", ""), true}, {of("", "", "", ""), false}, {of(long[:24]), true}, {of(long), false}, {of("a", "b", long), false}, {api.Row{nil}, true},
	} {
		if May(x.r) != x.want {
			t.Errorf("May(%q) is not %v", x.r, x.want)
		}
		if b, e := Bytes(x.r); (e == api.OK) != x.want || !x.want && (b != nil || e != api.ErrArg) {
			t.Errorf("Bytes(%q) is % x, %v", x.r, b, e)
		}
		if w, e := Words(x.r); (e == api.OK) != x.want || !x.want && (w != nil || e != api.ErrArg) {
			t.Errorf("Words(%q) is %x, %v", x.r, w, e)
		}
	}
	for n, want := range map[int]bool{0: false, 1: true, 32: true, 33: false, 5000: false} {
		if MayKey(make([]byte, n)) != want {
			t.Errorf("MayKey of %d bytes is not %v", n, want)
		}
	}
}

func TestBytes(t *testing.T) { // P13.1
	if b, e := Bytes(of("a", "bc")); string(b) != "\x02\x01a\x02bc" || e != api.OK {
		t.Errorf("Bytes is % x, %v", b, e)
	}
	r, e := Read([]byte("\x02\x01a\x02bc"))
	if !Same(r, of("a", "bc")) || e != api.OK {
		t.Errorf("Read is %q, %v", r, e)
	}
	for _, s := range []string{"", "\x00", "\x02\x01a", "\x02\x01a\x02b", "\x01\x01a\x00", "\x04\x00\x00\x00\x00", "\x01\x19" + long, "\x81\x00\x00", "\x01\x81\x00a", "\x01", "\xff\xff\xff\xff\xff\xff\xff\xff\xff\x01"} {
		if r, e := Read([]byte(s)); r != nil || e != api.ErrBytes {
			t.Errorf("Read of % x is %q, %v", s, r, e)
		}
	}
	src := []byte("\x01\x02ab")
	r, _ = Read(src)
	src[2] = 'z'
	if string(r[0]) != "ab" {
		t.Error("Read shares memory with what it was given")
	}
}

func TestWords(t *testing.T) { // P13.2
	if w, e := Words(of("a")); !slices.Equal(w, []uint64{3, 0x010161 << 40}) || e != api.OK {
		t.Errorf("Words is %x, %v", w, e)
	}
	if w, e := Words(of(long[:24], long[:24], long[:24])); len(w) != api.MaxWords || w[0] != 76 || e != api.OK {
		t.Errorf("Words is %x, %v", w, e)
	}
	if w, _ := Words(of("12345678")); len(w) != 3 || w[1] != 0x0108313233343536 || w[2] != 0x3738<<48 {
		t.Errorf("Words is %x", w)
	}
	if w, _ := Words(of("123456")); len(w) != 2 {
		t.Errorf("Words is %x", w)
	}
	good := []uint64{3, 0x010161 << 40}
	if r, e := Of(good...); !Same(r, of("a")) || e != api.OK {
		t.Errorf("Of is %q, %v", r, e)
	}
	for i, w := range [][]uint64{{}, {3}, {3, 0x010161 << 40, 0}, {3, 0x010161<<40 | 1}, {3, 0x010161<<40 | 1<<39}, {4, 0x010161 << 40}, {2, 0x010161 << 40}, {0}, {0, 0}, {1, 0},
		{math.MaxUint64}, {1 << 63}, {math.MaxUint64, 0}, {77, 1, 2, 3, 4, 5, 6, 7, 8, 9, 10}, make([]uint64, 5000), {3, 0x010261 << 40}} {
		if r, e := Of(w...); r != nil || e != api.ErrBytes {
			t.Errorf("%d: Of is %q, %v", i, r, e)
		}
	}
}

func TestEntries(t *testing.T) { // P13.3
	b, e := Entry([]byte("a\x00"), []byte("k"))
	if string(b) != "a\x00\xff\x00\x01k" || e != api.OK {
		t.Errorf("Entry is % x, %v", b, e)
	}
	f, k, e := Split(b)
	if string(f) != "a\x00" || string(k) != "k" || e != api.OK {
		t.Errorf("Split is %q, %q, %v", f, k, e)
	}
	f[0], k[0] = 'z', 'z'
	if string(b) != "a\x00\xff\x00\x01k" {
		t.Error("Split shares memory with what it was given")
	}
	if b, e := Entry(nil, []byte("\x00\x01")); string(b) != "\x00\x01\x00\x01" || e != api.OK {
		t.Errorf("Entry is % x, %v", b, e)
	}
	if b, e := Entry(make([]byte, 24), make([]byte, 32)); len(b) != 82 || e != api.OK {
		t.Errorf("the longest entry has %d bytes, %v", len(b), e)
	}
	for _, x := range [][2]string{{"a", ""}, {long, "k"}, {"a", strings.Repeat("k", 33)}} {
		if b, e := Entry([]byte(x[0]), []byte(x[1])); b != nil || e != api.ErrArg {
			t.Errorf("Entry(%q, %q) is % x, %v", x[0], x[1], b, e)
		}
	}
	for _, s := range []string{"", "a", "a\x00", "a\x00\x01", "a\x00\x02k", "a\x00\x00\x01k", "\x00\xff", "\x00\xfe\x00\x01k", long + "\x00\x01k", "\x00\x01" + strings.Repeat("k", 33)} {
		if f, k, e := Split([]byte(s)); f != nil || k != nil || e != api.ErrBytes {
			t.Errorf("Split of % x is %q, %q, %v", s, f, k, e)
		}
	}
	if b, e := Front([]byte("a\x00")); string(b) != "a\x00\xff" || e != api.OK {
		t.Errorf("Front is % x, %v", b, e)
	}
	if b, e := Front([]byte(long)); b != nil || e != api.ErrArg {
		t.Errorf("Front is % x, %v", b, e)
	}
	if b, e := Front(nil); len(b) != 0 || e != api.OK {
		t.Errorf("Front of none is % x, %v", b, e)
	}
}

func TestCopyAndSame(t *testing.T) { // P13.4
	r := of("a", "", "b")
	c := Copy(r)
	if !Same(r, c) || !Same(nil, api.Row{}) || len(Copy(nil)) != 0 || !Same(api.Row{nil}, api.Row{{}}) {
		t.Error("Copy, Same are wrong")
	}
	c[0][0] = 'z'
	c[1] = []byte("y")
	if !Same(r, of("a", "", "b")) || Same(r, c) {
		t.Error("Copy shares memory")
	}
	for _, o := range []api.Row{nil, of("a"), of("a", ""), of("a", "", "c"), of("a", "", "b", ""), of("", "a", "b")} {
		if Same(r, o) || Same(o, r) {
			t.Errorf("Same(%q, %q)", r, o)
		}
	}
}

func TestWhatFollows(t *testing.T) { // P13.5, P0.9, P0.10
	rnd := rand.New(rand.NewSource(1))
	some := func(least, most int) []byte {
		b := make([]byte, least+rnd.Intn(most-least+1))
		for i := range b {
			b[i] = []byte{0, 0, 1, 1, 2, 'a', 254, 255}[rnd.Intn(8)]
		}
		return b
	}
	for range 20000 {
		r := api.Row{some(0, 24), some(0, 3), some(0, 9)}[:1+rnd.Intn(3)]
		b, _ := Bytes(r)
		w, _ := Words(r)
		back, e := Read(b)
		if again, bad := Of(w...); !Same(back, r) || !Same(again, r) || e != api.OK || bad != api.OK {
			t.Fatalf("%q is read as %q, %q", r, back, again)
		}
		any := some(0, 9)
		if r, e := Read(any); e == api.OK {
			if b, _ := Bytes(r); !bytes.Equal(b, any) {
				t.Fatalf("% x is read as %q", any, r)
			}
		}
		if f, k, e := Split(any); e == api.OK {
			if b, _ := Entry(f, k); !bytes.Equal(b, any) {
				t.Fatalf("% x is split into %q, %q", any, f, k)
			}
		}
		f, g, k, l := some(0, 3), some(0, 3), some(1, 3), some(1, 3)
		x, _ := Entry(f, k)
		y, _ := Entry(g, l)
		order := bytes.Compare(f, g)
		if order == 0 {
			order = bytes.Compare(k, l)
		}
		if bytes.Compare(x, y) != order {
			t.Fatalf("the entries of %q %q and %q %q are out of order", f, k, g, l)
		}
		front, _ := Front(f)
		if bytes.HasPrefix(g, f) && bytes.Compare(y, front) < 0 || bytes.Compare(g, f) < 0 && bytes.Compare(y, front) >= 0 {
			t.Fatalf("the front of %q, the entry of %q", f, g)
		}
	}
}
