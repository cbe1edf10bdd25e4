package tid

import (
	"math"
	"math/rand"
	"testing"

	"garner/api"
)

func word(t *testing.T, epoch, number int64) uint64 {
	t.Helper()
	w, e := Word(epoch, number)
	if e != api.OK {
		t.Fatalf("Word(%d, %d): %v", epoch, number, e)
	}
	return w
}

func is(t *testing.T, what string, got uint64, e api.Errno, want uint64, err api.Errno) {
	t.Helper()
	if got != want || e != err {
		t.Errorf("%s is %d, %v; want %d, %v", what, got, e, want, err)
	}
}

func TestWord(t *testing.T) { // P7.1
	if word(t, 1, 1) != 1<<34+8 || word(t, 2, 0) != 1<<35 || word(t, 0, 0) != 0 {
		t.Error("Word is wrong")
	}
	if w := word(t, api.MaxEpoch, api.MaxSeq); w != 1<<58-8 || !May(w) || Epoch(w) != api.MaxEpoch || Number(w) != api.MaxSeq {
		t.Errorf("the greatest word is %d", w)
	}
	for _, x := range [][2]int64{{1 << 24, 0}, {-1, 0}, {0, -1}, {0, 1 << 31}, {math.MinInt64, 0}, {0, math.MaxInt64}} {
		w, e := Word(x[0], x[1])
		is(t, "Word", w, e, 0, api.ErrArg)
	}
	if !May(1<<58-1) || May(1<<58) || May(1<<63) || !May(0) {
		t.Error("May is wrong")
	}
	if Epoch(math.MaxUint64) != api.MaxEpoch || Number(math.MaxUint64) != api.MaxSeq || Epoch(1<<58) != 0 || Number(7) != 0 {
		t.Error("Epoch, Number of any word are wrong")
	}
}

func TestBits(t *testing.T) { // P7.2
	w := word(t, 3, 4)
	for bits := range uint64(8) {
		l, d, a := bits&1 != 0, bits&2 != 0, bits&4 != 0
		x := With(w|7-bits, l, d, a)
		if x != w+bits || Locked(x) != l || Dead(x) != d || Absent(x) != a || Bare(x) != w {
			t.Errorf("bits %d: %d", bits, x)
		}
	}
	if With(math.MaxUint64, false, false, false) != math.MaxUint64-7 || Bare(math.MaxUint64) != math.MaxUint64-7 {
		t.Error("other bits have changed")
	}
	for _, x := range []struct {
		a, b uint64
		want bool
	}{
		{word(t, 1, 9), word(t, 2, 1), true}, {word(t, 2, 1), word(t, 1, 9), false}, {word(t, 2, 1), word(t, 2, 2), true},
		{w, w, false}, {w, w | 7, false}, {w | 7, w, false}, {w | 7, word(t, 3, 5), true},
	} {
		if Less(x.a, x.b) != x.want {
			t.Errorf("Less(%d, %d) is not %v", x.a, x.b, x.want)
		}
	}
}

func TestNext(t *testing.T) { // P7.3
	n, e := Next(With(word(t, 1, 5), true, false, false))
	is(t, "Next", n, e, word(t, 1, 6), api.OK)
	n, e = Next(0)
	is(t, "Next", n, e, 8, api.OK)
	n, e = Next(word(t, 1, api.MaxSeq) | 7)
	is(t, "Next", n, e, 0, api.ErrFull)
	n, e = Next(word(t, 1, api.MaxSeq) | 1<<58)
	is(t, "Next", n, e, 0, api.ErrArg)
	n, e = Next(word(t, api.MaxEpoch, api.MaxSeq-1))
	is(t, "Next", n, e, word(t, api.MaxEpoch, api.MaxSeq), api.OK)
	n, e = Advance(word(t, 1, 5) | 7)
	is(t, "Advance", n, e, word(t, 2, 5), api.OK)
	n, e = Advance(word(t, api.MaxEpoch, 5))
	is(t, "Advance", n, e, 0, api.ErrFull)
	n, e = Advance(1 << 60)
	is(t, "Advance", n, e, 0, api.ErrArg)
	n, e = Advance(word(t, 1, api.MaxSeq))
	is(t, "Advance", n, e, word(t, 2, api.MaxSeq), api.OK)
}

func TestText(t *testing.T) { // P7.4
	for _, x := range []struct {
		w    uint64
		want string
	}{
		{0, "0.0"}, {With(word(t, 3, 4), true, false, true), "3.4LA"}, {With(word(t, 3, 4), true, true, true), "3.4LDA"},
		{With(word(t, 10, 0), false, true, false), "10.0D"}, {word(t, api.MaxEpoch, api.MaxSeq), "16777215.2147483647"},
	} {
		if s, e := Text(x.w); s != x.want || e != api.OK {
			t.Errorf("Text(%d) is %q, %v", x.w, s, e)
		}
		w, e := Parse(x.want)
		is(t, "Parse of "+x.want, w, e, x.w, api.OK)
	}
	if s, e := Text(1 << 58); s != "" || e != api.ErrArg {
		t.Errorf("Text is %q, %v", s, e)
	}
	for _, s := range []string{"", ".", "3", "3.", ".4", "03.4", "3.04", "+3.4", "-3.4", "3.-4", "3.4AL", "3.4LL", "3.4l", "3.4 ", " 3.4", "L3.4", "3L.4", "3.4.5", "3..4",
		"16777216.0", "0.2147483648", "99999999999999999999.0", "1e1.0", "3.4X", "0x1.0", "1_0.0"} {
		w, e := Parse(s)
		is(t, "Parse of "+s, w, e, 0, api.ErrBytes)
	}
}

func TestWhatFollows(t *testing.T) { // P7.5, P0.10
	r := rand.New(rand.NewSource(1))
	for range 2000 {
		w := r.Uint64() >> 6 >> r.Intn(58)
		s, e := Text(w)
		if back, bad := Parse(s); e != api.OK || bad != api.OK || back != w {
			t.Fatalf("%d is written %q, which is read as %d", w, s, back)
		}
		n, e := Next(w)
		if e == api.OK && (!Less(w, n) || Epoch(n) != Epoch(w) || Number(n) != Number(w)+1) {
			t.Fatalf("Next of %d is %d", w, n)
		}
		n, e = Advance(w)
		if most, _ := Word(Epoch(w), api.MaxSeq); e == api.OK && !Less(most, n) {
			t.Fatalf("Advance of %d is %d", w, n)
		}
	}
}
