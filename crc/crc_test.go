package crc

import (
	"hash/crc32"
	"math"
	"math/rand"
	"slices"
	"testing"
)

func plain(l ...[]byte) uint32 {
	return crc32.Checksum(slices.Concat(l...), crc32.MakeTable(crc32.Castagnoli))
}

func random(r *rand.Rand, n int) []byte {
	b := make([]byte, n)
	r.Read(b)
	return b
}

func TestExamples(t *testing.T) { // P2.1 to P2.3
	for i, x := range []struct{ got, want uint32 }{
		{Sum(), 0}, {Sum(nil, []byte{}), 0}, {Sum([]byte("123456789")), 3808858755}, {Sum([]byte("a")), 3251651376}, {Sum(make([]byte, 4)), 1214729159},
		{Sum([]byte("123"), nil, []byte("456789")), 3808858755},
		{More(Sum([]byte("12345")), []byte("6789")), 3808858755}, {More(7, nil), 7},
		{Zeros(0, 4), 1214729159}, {Zeros(7, -1), 7}, {Zeros(7, 0), 7}, {Zeros(7, math.MinInt), 7},
		{Join(Sum([]byte("1234")), Sum([]byte("56789")), 5), 3808858755}, {Join(9, 0, 0), 9}, {Join(9, 5, 0), 12}, {Join(9, 5, -3), 12},
	} {
		if x.got != x.want {
			t.Errorf("%d: %d, want %d", i, x.got, x.want)
		}
	}
	if !Holds([]byte("123456789"), 3808858755) || Holds([]byte("123456789"), 3808858754) || !Holds(nil, 0) {
		t.Error("Holds is wrong")
	}
}

func TestSums(t *testing.T) { // P2.1, P2.2
	r := rand.New(rand.NewSource(2))
	for range 300 {
		a, b := random(r, r.Intn(70)), random(r, r.Intn(70))
		if got := Sum(a, b); got != plain(a, b) {
			t.Fatalf("Sum of % x and % x is %d", a, b, got)
		}
		if got := More(Sum(a), b); got != plain(a, b) {
			t.Fatalf("More of % x behind % x is %d", b, a, got)
		}
		n := r.Intn(300)
		if got := Zeros(Sum(a), n); got != plain(a, make([]byte, n)) {
			t.Fatalf("Zeros of % x, %d is %d", a, n, got)
		}
		if got := Zeros(Zeros(Sum(a), 3), n); got != Zeros(Sum(a), n+3) {
			t.Fatalf("Zeros by %d and 3 is %d", n, got)
		}
	}
	if Zeros(5, math.MaxInt) == 5 { // ends soon
		t.Error("Zeros of very many did nothing")
	}
}

func TestJoin(t *testing.T) { // P2.3, P2.4
	r := rand.New(rand.NewSource(3))
	for range 300 {
		a, b := random(r, r.Intn(70)), random(r, r.Intn(70))
		if got := Join(Sum(a), Sum(b), len(b)); got != plain(a, b) {
			t.Fatalf("Join of % x and % x is %d", a, b, got)
		}
		c, d := random(r, len(a)), random(r, len(a))
		x := make([]byte, len(a))
		for i := range x {
			x[i] = a[i] ^ c[i] ^ d[i]
		}
		if Sum(x) != Sum(a)^Sum(c)^Sum(d) {
			t.Fatalf("the sums of % x, % x, % x do not go together", a, c, d)
		}
		s, n := r.Uint32(), r.Intn(1000) // any sums: a linear rule
		if Join(s, 77, n) != Join(s, 0, n)^77 || Join(s^9, 0, n) != Join(s, 0, n)^Join(9, 0, n) || Join(s, 0, n) != Zeros(s, n)^Zeros(0, n) {
			t.Fatalf("Join of %d by %d is no moving on", s, n)
		}
	}
}

func TestErrorsAreSeen(t *testing.T) { // P2.4
	r := rand.New(rand.NewSource(4))
	long := random(r, 1<<16)
	sum := Sum(long)
	for range 100 {
		b := slices.Clone(long)
		for range 1 + r.Intn(3) {
			b[r.Intn(len(b))] ^= 1 << r.Intn(8)
		}
		if !slices.Equal(b, long) && Holds(b, sum) {
			t.Fatal("some few bits more are not seen")
		}
		b = slices.Clone(long)
		at := r.Intn(len(b) - 4)
		for i := range 4 {
			b[at+i] ^= byte(r.Intn(256))
		}
		if !slices.Equal(b, long) && Holds(b, sum) {
			t.Fatal("32 bits that follow each other are not seen")
		}
	}
}
