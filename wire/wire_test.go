package wire

import (
	"bytes"
	"math"
	"math/rand"
	"testing"

	"garner/api"
)

func TestForms(t *testing.T) { // P1.1
	src := []byte("ab")
	for i, x := range []struct {
		got  []byte
		want string
	}{
		{Number(0), "\x00"}, {Number(1), "\x01"}, {Number(127), "\x7f"}, {Number(128), "\x80\x01"}, {Number(300), "\xac\x02"},
		{Number(1<<14 - 1), "\xff\x7f"}, {Number(1 << 14), "\x80\x80\x01"},
		{Number(1 << 63), "\x80\x80\x80\x80\x80\x80\x80\x80\x80\x01"},
		{Number(math.MaxUint64), "\xff\xff\xff\xff\xff\xff\xff\xff\xff\x01"},
		{Signed(0), "\x00"}, {Signed(-1), "\x01"}, {Signed(1), "\x02"}, {Signed(-64), "\x7f"}, {Signed(64), "\x80\x01"},
		{Signed(math.MinInt64), "\xff\xff\xff\xff\xff\xff\xff\xff\xff\x01"},
		{Signed(math.MaxInt64), "\xfe\xff\xff\xff\xff\xff\xff\xff\xff\x01"},
		{Flag(true), "\x01"}, {Flag(false), "\x00"},
		{Bytes(src), "\x02ab"}, {Bytes(nil), "\x00"}, {Bytes([]byte{}), "\x00"},
		{Join(), ""}, {Join(nil, []byte{}), ""}, {Join(src, nil, []byte("c")), "abc"},
	} {
		if string(x.got) != x.want {
			t.Errorf("%d: % x, want % x", i, x.got, x.want)
		}
	}
	long := bytes.Repeat([]byte{'x'}, 200)
	if b := Bytes(long); !bytes.Equal(b[:2], []byte{0xc8, 1}) || !bytes.Equal(b[2:], long) {
		t.Errorf("Bytes of 200 is % x", b)
	}
	j := Join(src)
	j[0] = 'z'
	if string(src) != "ab" {
		t.Error("Join shares memory with what it was given")
	}
}

func TestPut(t *testing.T) { // P1.1
	if b, e := Put([]int64{1, -1}, Signed); string(b) != "\x02\x02\x01" || e != api.OK {
		t.Errorf("Put is % x, %v", b, e)
	}
	if b, e := Put([]int64(nil), Signed); string(b) != "\x00" || e != api.OK {
		t.Errorf("Put of none is % x, %v", b, e)
	}
	if b, e := Put([]int64{1}, nil); b != nil || e != api.ErrNil {
		t.Errorf("Put without a function is % x, %v", b, e)
	}
	if b, e := Put([][]byte{[]byte("a"), nil, []byte("bc")}, Bytes); string(b) != "\x03\x01a\x00\x02bc" || e != api.OK {
		t.Errorf("Put of bytes is % x, %v", b, e)
	}
}

func TestOpen(t *testing.T) { // P1.2
	src := []byte{5, 6}
	r := Open(src)
	src[0] = 9
	if r.Left() != 2 || r.End() != api.ErrBytes {
		t.Errorf("Left %d, End %v", r.Left(), r.End())
	}
	if n, e := r.Number(); n != 5 || e != api.OK || r.Left() != 1 {
		t.Errorf("Number is %d, %v: the bytes are as they were at Open", n, e)
	}
	if n, e := r.Number(); n != 6 || e != api.OK || r.Left() != 0 || r.End() != api.OK {
		t.Errorf("Number is %d, %v", n, e)
	}
	if r := Open(nil); r.Left() != 0 || r.End() != api.OK {
		t.Errorf("a reader of no bytes: Left %d, End %v", r.Left(), r.End())
	}
}

func TestNil(t *testing.T) { // P1.2 to P1.4
	for _, r := range []*Reader{nil, {}} {
		if _, e := r.Number(); e != api.ErrNil {
			t.Errorf("Number: %v", e)
		}
		if _, e := r.Signed(); e != api.ErrNil {
			t.Errorf("Signed: %v", e)
		}
		if _, e := r.Flag(); e != api.ErrNil {
			t.Errorf("Flag: %v", e)
		}
		if _, e := r.Bytes(-1); e != api.ErrNil {
			t.Errorf("Bytes: %v", e)
		}
		if r.Left() != 0 || r.End() != api.ErrNil {
			t.Errorf("Left %d, End %v", r.Left(), r.End())
		}
		if _, e := Take(r, -1, (*Reader).Number); e != api.ErrNil {
			t.Errorf("Take: %v", e)
		}
	}
	if _, e := Take[uint64](Open(nil), -1, nil); e != api.ErrNil {
		t.Errorf("Take without a function: %v", e)
	}
}

func TestNumbers(t *testing.T) { // P1.3
	for _, s := range []string{"", "\x80", "\x80\x00", "\xff\x80\x00", "\xff\xff\xff\xff\xff\xff\xff\xff\xff\x02",
		"\xff\xff\xff\xff\xff\xff\xff\xff\xff\x81", "\xff\xff\xff\xff\xff\xff\xff\xff\xff\x80\x01", "\xff\xff\xff\xff\xff\xff\xff\xff\xff"} {
		r := Open([]byte(s))
		if n, e := r.Number(); n != 0 || e != api.ErrBytes || r.Left() != len(s) {
			t.Errorf("Number of % x: %d, %v, left %d", s, n, e, r.Left())
		}
		if n, e := r.Signed(); n != 0 || e != api.ErrBytes || r.Left() != len(s) {
			t.Errorf("Signed of % x: %d, %v, left %d", s, n, e, r.Left())
		}
	}
	for _, s := range []string{"", "\x02", "\x80", "\xff"} {
		r := Open([]byte(s))
		if is, e := r.Flag(); is || e != api.ErrBytes || r.Left() != len(s) {
			t.Errorf("Flag of % x: %v, %v", s, is, e)
		}
	}
	r := Open([]byte{1, 0})
	if is, e := r.Flag(); !is || e != api.OK {
		t.Errorf("Flag of 1: %v, %v", is, e)
	}
	if is, e := r.Flag(); is || e != api.OK || r.End() != api.OK {
		t.Errorf("Flag of 0: %v, %v", is, e)
	}
}

func TestBytes(t *testing.T) { // P1.3
	for _, x := range []struct {
		s    string
		most int
		want api.Errno
	}{
		{"\x02ab", -1, api.ErrArg}, {"\x80\x00", 9, api.ErrBytes}, {"", 9, api.ErrBytes}, {"\x02ab", 1, api.ErrLong},
		{"\x02a", 1, api.ErrLong}, {"\x02a", 2, api.ErrBytes}, {"\x02", math.MaxInt, api.ErrBytes},
		{"\xff\xff\xff\xff\xff\xff\xff\xff\xff\x01a", math.MaxInt, api.ErrLong}, {"\xff\xff\xff\xff\xff\xff\xff\xff\x7fa", math.MaxInt, api.ErrBytes},
	} {
		r := Open([]byte(x.s))
		if b, e := r.Bytes(x.most); b != nil || e != x.want || r.Left() != len(x.s) {
			t.Errorf("Bytes(%d) of % x: % x, %v, left %d; want %v", x.most, x.s, b, e, r.Left(), x.want)
		}
	}
	r := Open([]byte("\x02ab\x00c"))
	b, e := r.Bytes(2)
	if string(b) != "ab" || e != api.OK || r.Left() != 2 {
		t.Errorf("Bytes is %q, %v, left %d", b, e, r.Left())
	}
	if b, e := r.Bytes(0); len(b) != 0 || e != api.OK || r.Left() != 1 {
		t.Errorf("Bytes of none is %q, %v", b, e)
	}
}

func TestTake(t *testing.T) { // P1.4
	r := Open([]byte{2, 5, 0x80, 1})
	if l, e := Take(r, 9, (*Reader).Number); len(l) != 2 || l[0] != 5 || l[1] != 128 || e != api.OK || r.Left() != 0 {
		t.Errorf("Take is %v, %v", l, e)
	}
	if l, e := Take(Open([]byte{0, 7}), 0, (*Reader).Number); len(l) != 0 || e != api.OK {
		t.Errorf("Take of none is %v, %v", l, e)
	}
	for _, x := range []struct {
		s    string
		most int
		want api.Errno
	}{
		{"\x01\x05", -1, api.ErrArg}, {"\x80\x00", -1, api.ErrArg}, {"\x80\x00", 3, api.ErrBytes}, {"\x02\x05\x06", 1, api.ErrLong},
		{"\x02\x05\x80\x00", 2, api.ErrBytes}, {"\x02\x05", 2, api.ErrBytes}, {"\x02\x80", 1, api.ErrLong},
		{"\xff\xff\xff\xff\xff\xff\xff\xff\xff\x01", math.MaxInt, api.ErrLong},
	} {
		r := Open([]byte(x.s))
		if l, e := Take(r, x.most, (*Reader).Number); l != nil || e != x.want || r.Left() != len(x.s) {
			t.Errorf("Take(%d) of % x: %v, %v, left %d; want %v", x.most, x.s, l, e, r.Left(), x.want)
		}
	}
	calls := 0
	own := func(r *Reader) (int, api.Errno) {
		calls++
		if calls == 2 {
			return 0, api.ErrState
		}
		return calls, api.OK
	}
	r = Open([]byte{3, 1, 1, 1})
	if l, e := Take(r, 3, own); l != nil || e != api.ErrState || calls != 2 || r.Left() != 4 {
		t.Errorf("Take is %v, %v behind %d calls", l, e, calls)
	}
	lists := func(r *Reader) ([]uint64, api.Errno) { return Take(r, 2, (*Reader).Number) }
	r = Open([]byte{2, 1, 7, 3, 1, 2, 3})
	if l, e := Take(r, 2, lists); l != nil || e != api.ErrLong || r.Left() != 7 {
		t.Errorf("Take of lists is %v, %v, left %d", l, e, r.Left())
	}
}

func TestThereAndBack(t *testing.T) { // P1.5, P0.10
	rnd := rand.New(rand.NewSource(1))
	for range 2000 {
		n := rnd.Uint64() >> rnd.Intn(64)
		f := Number(n)
		r := Open(f)
		if m, e := r.Number(); m != n || e != api.OK || r.End() != api.OK {
			t.Fatalf("Number of the form of %d: %d, %v", n, m, e)
		}
		s := int64(n)
		if rnd.Intn(2) == 0 {
			s = -s
		}
		if m, e := Open(Signed(s)).Signed(); m != s || e != api.OK {
			t.Fatalf("Signed of the form of %d: %d, %v", s, m, e)
		}
		for k := range f { // no form is the beginning of another one
			if _, e := Open(f[:k]).Number(); e != api.ErrBytes {
				t.Fatalf("the first %d bytes of % x are a number", k, f)
			}
		}
		any := make([]byte, rnd.Intn(12))
		for i := range any {
			any[i] = []byte{0, 1, 2, 0x7f, 0x80, 0x81, 0xff}[rnd.Intn(7)]
		}
		r = Open(any)
		if m, e := r.Number(); e == api.OK && !bytes.Equal(Number(m), any[:len(any)-r.Left()]) {
			t.Fatalf("% x was read as %d, which is written % x", any, m, Number(m))
		}
		r = Open(any)
		if b, e := r.Bytes(100); e == api.OK && !bytes.Equal(Bytes(b), any[:len(any)-r.Left()]) {
			t.Fatalf("% x was read as the bytes % x", any, b)
		}
		if b, e := Open(Bytes(any)).Bytes(len(any)); !bytes.Equal(b, any) || e != api.OK {
			t.Fatalf("Bytes of the form of % x: % x, %v", any, b, e)
		}
	}
}
