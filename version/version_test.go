package version

import (
	"math"
	"math/rand"
	"testing"

	"garner/api"
)

func is(t *testing.T, what string, got uint64, e api.Errno, want uint64, err api.Errno) {
	t.Helper()
	if got != want || e != err {
		t.Errorf("%s is %#x, %v; want %#x, %v", what, got, e, want, err)
	}
}

func must(v uint64, e api.Errno) uint64 {
	if e != api.OK {
		panic(e)
	}
	return v
}

func TestExamples(t *testing.T) {
	if New(true, true) != 48 || New(true, false) != 16 || New(false, true) != 32 || New(false, false) != 0 {
		t.Error("New is wrong")
	}
	v, e := Lock(48)
	is(t, "Lock", v, e, 49, api.OK)
	v, e = Unlock(49)
	is(t, "Unlock", v, e, 48, api.OK)
	v, e = Unlock(must(Insert(49)))
	is(t, "Unlock", v, e, 48+256, api.OK)
	v, e = Unlock(must(Split(49)))
	is(t, "Unlock", v, e, 48+1<<24, api.OK)
	v, e = Lock(49)
	is(t, "Lock", v, e, 0, api.ErrState)
	v, e = Insert(48)
	is(t, "Insert", v, e, 0, api.ErrState)
	v, e = Unlock(48)
	is(t, "Unlock", v, e, 0, api.ErrState)
	v, e = Lock(64)
	is(t, "Lock", v, e, 0, api.ErrArg)
	if !Same(48, 49) || Moved(48, 304) || !Moved(48, 56) {
		t.Error("Same, Moved are wrong")
	}
}

func TestWords(t *testing.T) { // P10.1
	for bit := range 64 {
		v := uint64(1) << bit
		if May(v) != (bit < 6 || bit >= 8 && bit < 56) {
			t.Errorf("May of the bit %d is %v", bit, May(v))
		}
		if Still(v) != (bit != 1 && bit != 2) {
			t.Errorf("Still of the bit %d is %v", bit, Still(v))
		}
	}
	if !May(0) || !Still(0) || Still(6) || Still(math.MaxUint64) {
		t.Error("May, Still are wrong")
	}
	if !Has(0x31, api.NodeLocked|api.NodeRoot) || Has(0x31, api.NodeLocked|api.NodeGone) || !Has(5, 0) || Has(0, 1<<63) {
		t.Error("Has is wrong")
	}
	if Inserts(math.MaxUint64) != 1<<16-1 || Splits(math.MaxUint64) != 1<<32-1 || Inserts(5<<8|9<<24|63) != 5 || Splits(5<<8|9<<24|63) != 9 || Splits(1<<56) != 0 {
		t.Error("Inserts, Splits are wrong")
	}
}

func TestUnlock(t *testing.T) { // P10.2
	for _, x := range []struct{ v, want uint64 }{
		{1, 0}, {1 | 2, 1 << 8}, {1 | 4, 1 << 24}, {1 | 2 | 4, 1 << 24}, {1 | 2 | 56, 56 | 1<<8},
		{1 | 2 | (1<<16-1)<<8 | 7<<24, 7 << 24}, {1 | 4 | (1<<32-1)<<24 | 7<<8, 7 << 8}, // they go round
		{1 | 2 | 4 | (1<<48-1)<<8, (1<<16 - 1) << 8},
	} {
		v, e := Unlock(x.v)
		is(t, "Unlock", v, e, x.want, api.OK)
	}
	for _, call := range []func(uint64) (uint64, api.Errno){Lock, Insert, Split, Unlock} {
		for _, bad := range []uint64{64, 128, 1 << 56, 1<<63 | 1, math.MaxUint64} {
			v, e := call(bad)
			is(t, "of what may not be", v, e, 0, api.ErrArg)
		}
	}
	v, e := Split(48)
	is(t, "Split", v, e, 0, api.ErrState)
	v, e = Split(must(Insert(49)))
	is(t, "Split", v, e, 49|6, api.OK)
	v, e = Insert(49 | 2)
	is(t, "Insert twice", v, e, 49|2, api.OK)
	v, e = Lock(2 | 4)
	is(t, "Lock of a marked one", v, e, 7, api.OK)
}

func TestRootAndSame(t *testing.T) { // P10.3
	if Root(0x31, false) != 0x21 || Root(0x21, true) != 0x31 || Root(16, true) != 16 || Root(0, false) != 0 || Gone(0x21) != 0x29 || Gone(8) != 8 {
		t.Error("Root, Gone are wrong")
	}
	for bit := range 64 {
		v := uint64(1) << bit
		if Same(7<<30, 7<<30^v) != (bit == 0) {
			t.Errorf("Same at the bit %d is wrong", bit)
		}
		if Moved(7<<30, 7<<30^v) != (bit == 3 || bit >= 24 && bit < 56) {
			t.Errorf("Moved at the bit %d is wrong", bit)
		}
	}
	if Moved(0, 0) || !Same(0, 0) {
		t.Error("a word is not itself")
	}
}

func TestWhatFollows(t *testing.T) { // P10.4
	r := rand.New(rand.NewSource(1))
	for range 2000 {
		v := r.Uint64() &^ (unused | marks | api.NodeLocked)
		l := must(Lock(v))
		if must(Unlock(l)) != v {
			t.Fatalf("%#x, locked and unlocked, is another one", v)
		}
		i, s := must(Unlock(must(Insert(l)))), must(Unlock(must(Split(l))))
		if i == v || s == v || Same(i, v) || Same(s, v) || Moved(i, v) || !Moved(s, v) || Inserts(s) != Inserts(v) || Splits(i) != Splits(v) {
			t.Fatalf("%#x: behind an insert %#x, behind a split %#x", v, i, s)
		}
		if !May(i) || !May(s) || !Still(i) || !Still(s) {
			t.Fatalf("%#x: %#x, %#x", v, i, s)
		}
	}
}
