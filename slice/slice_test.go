package slice

import (
	"bytes"
	"math"
	"math/rand"
	"slices"
	"strings"
	"testing"

	"garner/api"
)

func x(n int) []byte { return bytes.Repeat([]byte{'x'}, n) }

func TestOf(t *testing.T) { // P8.1
	for _, c := range []struct {
		key  string
		i    int
		want api.Slice
		e    api.Errno
	}{
		{"ab", 0, api.Slice{Word: 97<<56 | 98<<48, Len: 2}, api.OK}, {"ab", 1, api.Slice{}, api.ErrArg}, {"ab", -1, api.Slice{}, api.ErrArg},
		{"ab", math.MaxInt, api.Slice{}, api.ErrArg}, {"ab", math.MinInt, api.Slice{}, api.ErrArg},
		{"", 0, api.Slice{}, api.OK}, {"", 1, api.Slice{}, api.ErrArg},
		{"\x01\x02\x03\x04\x05\x06\x07\x08", 0, api.Slice{Word: 0x0102030405060708, Len: 8}, api.OK}, {"\x01\x02\x03\x04\x05\x06\x07\x08", 1, api.Slice{}, api.ErrArg},
		{"\x01\x02\x03\x04\x05\x06\x07\x08\x09", 0, api.Slice{Word: 0x0102030405060708, Len: 9}, api.OK},
		{"\x01\x02\x03\x04\x05\x06\x07\x08\x09", 1, api.Slice{Word: 9 << 56, Len: 1}, api.OK}, {"\x01\x02\x03\x04\x05\x06\x07\x08\x09", 2, api.Slice{}, api.ErrArg},
		{strings.Repeat("\x00", 17), 1, api.Slice{Len: 9}, api.OK}, {strings.Repeat("\x00", 17), 2, api.Slice{Len: 1}, api.OK},
	} {
		if s, e := Of([]byte(c.key), c.i); s != c.want || e != c.e {
			t.Errorf("Of(%q, %d) is %+v, %v", c.key, c.i, s, e)
		}
	}
	for n, want := range map[int]int{0: 1, 1: 1, 8: 1, 9: 2, 16: 2, 17: 3, 96: 12, 1000: 125} {
		if got := Count(x(n)); got != want {
			t.Errorf("Count of %d bytes is %d", n, got)
		}
	}
	if Count(nil) != 1 {
		t.Error("Count of nil is not 1")
	}
}

func TestAll(t *testing.T) { // P8.1
	key := []byte("abcdefghijklmnopqr")
	all := All(key)
	key[0] = 'A' // as the key is when it begins
	for range 2 {
		n := 0
		for i, s := range all {
			if want, _ := Of(key, n); i != n || s != want {
				t.Errorf("All at %d is %d, %+v", n, i, s)
			}
			n++
		}
		if n != 3 {
			t.Errorf("All has %d", n)
		}
	}
	for i, s := range all {
		key[17] = 'R'
		if i == 2 && s.Word != 'q'<<56|'r'<<48 {
			t.Error("All sees what changes meanwhile")
		}
	}
	for range all {
		break
	}
	n := 0
	for i, s := range All(nil) {
		if n++; i != 0 || s != (api.Slice{}) {
			t.Errorf("All of nil has %+v", s)
		}
	}
	if n != 1 {
		t.Errorf("All of nil has %d", n)
	}
}

func TestMayAndBytes(t *testing.T) { // P8.2
	for _, c := range []struct {
		s    api.Slice
		want string
		e    api.Errno
	}{
		{api.Slice{}, "", api.OK}, {api.Slice{Word: 97 << 56, Len: 1}, "a", api.OK}, {api.Slice{Word: 97 << 56, Len: 0}, "", api.ErrArg},
		{api.Slice{Word: 97<<56 | 1, Len: 7}, "", api.ErrArg}, {api.Slice{Word: 97<<56 | 1, Len: 8}, "a\x00\x00\x00\x00\x00\x00\x01", api.OK},
		{api.Slice{Word: 97<<56 | 1, Len: 9}, "a\x00\x00\x00\x00\x00\x00\x01", api.OK}, {api.Slice{Len: 3}, "\x00\x00\x00", api.OK},
		{api.Slice{Len: 10}, "", api.ErrArg}, {api.Slice{Len: -1}, "", api.ErrArg}, {api.Slice{Len: math.MinInt}, "", api.ErrArg}, {api.Slice{Len: math.MaxInt}, "", api.ErrArg},
		{api.Slice{Word: 1 << 47, Len: 2}, "", api.ErrArg},
	} {
		if b, e := Bytes(c.s); string(b) != c.want || e != c.e {
			t.Errorf("Bytes(%+v) is %q, %v", c.s, b, e)
		}
		if May(c.s) != (c.e == api.OK) {
			t.Errorf("May(%+v) is wrong", c.s)
		}
	}
}

func TestJoin(t *testing.T) { // P8.2
	a := api.Slice{Word: 97 << 56, Len: 9}
	end := api.Slice{Word: 'x' << 56, Len: 1}
	if b, e := Join(a, end); string(b) != "a\x00\x00\x00\x00\x00\x00\x00x" || e != api.OK {
		t.Errorf("Join is %q, %v", b, e)
	}
	if b, e := Join(api.Slice{}); len(b) != 0 || e != api.OK {
		t.Errorf("Join of the empty one is %q, %v", b, e)
	}
	for i, l := range [][]api.Slice{{}, {a}, {a, a}, {end, end}, {end, a}, {a, {}}, {a, {Word: 1, Len: 1}, end}, {a, end, end}, {{Len: 10}}, {{Word: 1}}, {{}, end}} {
		if b, e := Join(l...); b != nil || e != api.ErrArg {
			t.Errorf("%d: Join is %q, %v", i, b, e)
		}
	}
}

func TestCompare(t *testing.T) { // P8.3
	for _, c := range []struct {
		a, b api.Slice
		want int
	}{
		{api.Slice{Word: 97 << 56, Len: 1}, api.Slice{Word: 97 << 56, Len: 2}, -1}, {api.Slice{Word: 1, Len: 0}, api.Slice{Word: 0, Len: 9}, 1},
		{api.Slice{Word: math.MaxUint64, Len: -5}, api.Slice{Word: math.MaxUint64, Len: -5}, 0}, {api.Slice{Word: 1 << 63}, api.Slice{Word: 1}, 1},
		{api.Slice{Len: math.MinInt}, api.Slice{Len: math.MaxInt}, -1},
	} {
		if Compare(c.a, c.b) != c.want || Compare(c.b, c.a) != -c.want {
			t.Errorf("Compare(%+v, %+v) is %d", c.a, c.b, Compare(c.a, c.b))
		}
	}
	for _, c := range []struct {
		a, b   string
		order  int
		shared int
	}{
		{"", "", 0, 0}, {"a", "a\x00", -1, 0}, {"", "\x00", -1, 0}, {"b", "abc", 1, 0}, {"xxxxxxxxx", "xxxxxxxxx", 0, 1}, {"xxxxxxxx", "xxxxxxxx", 0, 0},
		{"xxxxxxxx", "xxxxxxxxx", -1, 0}, {"xxxxxxxxa", "xxxxxxxxb", -1, 1}, {"xxxxxxxxxxxxxxxxx", "xxxxxxxxxxxxxxxx", 1, 1},
		{"xxxxxxxxxxxxxxxxx", "xxxxxxxxxxxxxxxxyz", -1, 2}, {"\xff", "\x7f\xff", 1, 0}, {"xxxxxxxx\x00", "xxxxxxxx", 1, 0},
	} {
		a, b := []byte(c.a), []byte(c.b)
		if CompareKeys(a, b) != c.order || CompareKeys(b, a) != -c.order {
			t.Errorf("CompareKeys(%q, %q) is %d", a, b, CompareKeys(a, b))
		}
		if Shared(a, b) != c.shared || Shared(b, a) != c.shared {
			t.Errorf("Shared(%q, %q) is %d", a, b, Shared(a, b))
		}
	}
}

func TestWhatFollows(t *testing.T) { // P8.4, P0.8
	r := rand.New(rand.NewSource(1))
	key := func() []byte {
		b := make([]byte, r.Intn(27))
		for i := range b {
			b[i] = []byte{0, 0, 0, 0, 0, 1, 255}[r.Intn(7)]
		}
		return b
	}
	list := func(k []byte) []api.Slice {
		var l []api.Slice
		for _, s := range All(k) {
			l = append(l, s)
		}
		return l
	}
	for range 20000 {
		a, b := key(), key()
		l, m := list(a), list(b)
		if back, e := Join(l...); !bytes.Equal(back, a) || e != api.OK || len(l) != Count(a) {
			t.Fatalf("Join of the slices of % x is % x, %v", a, back, e)
		}
		if slices.Equal(l, m) != bytes.Equal(a, b) {
			t.Fatalf("% x and % x have the same slices", a, b)
		}
		if CompareKeys(a, b) != bytes.Compare(a, b) {
			t.Fatalf("CompareKeys of % x and % x is %d", a, b, CompareKeys(a, b))
		}
		for i := range min(len(l), len(m)) {
			if l[i] != m[i] {
				if Compare(l[i], m[i]) != bytes.Compare(a, b) {
					t.Fatalf("the slices %d of % x and % x compare otherwise", i, a, b)
				}
				break
			}
		}
	}
}
