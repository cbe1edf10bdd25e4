package store

import (
	"fmt"
	"math/rand"
	"testing"

	"garner/api"
)

// stress plays a store by chance, with crashes, and lets it come to its end: what was told, by kinds and errors.
func stress(t *testing.T, seed int64, j api.Job, txns int) map[string]int {
	r := rand.New(rand.NewSource(seed))
	what := fmt.Sprintf("seed %d, %+v", seed, j)
	s := over0(t, j, someSessions(r, j, txns))
	crashes := r.Intn(4)
	for c := 0; c <= crashes; c++ {
		burst := 1 + r.Intn(40)
		for i := r.Intn(3000); i > 0; i-- {
			n := r.Intn(64)
			for range 1 + r.Intn(burst) {
				pick(t, s, n)
				i--
			}
			if is, asked := s.Sound(); r.Intn(50) == 0 && asked && !is {
				t.Fatalf("%s: it is not sound", what)
			}
		}
		right(t, what, s, j)
		if c < crashes {
			if e := s.Do(someCrash(r, s)); e != api.OK {
				t.Fatalf("%s: a crash: %v", what, e)
			}
			right(t, what, s, j)
		}
	}
	fair(t, what, s, j)
	right(t, what, s, j)
	count := map[string]int{}
	for e := range s.Events() {
		count[fmt.Sprint(int(e.Kind), " ", int(e.Errno))]++
	}
	return count
}

func TestWhateverHappens(t *testing.T) { // P24.3: P0.1 to P0.5, P0.7, P0.8
	t.Parallel()
	all := map[string]int{}
	for seed := range int64(90) {
		for kind, n := range stress(t, seed, someJob(rand.New(rand.NewSource(-seed))), 10) {
			all[kind] += n
		}
	}
	for _, kind := range []string{"1 0", "2 8", "2 11", "3 0", "4 0", "5 0", "6 0"} {
		if all[kind] < 50 {
			t.Errorf("of what is told as %s there is %d", kind, all[kind])
		}
	}
}

func TestWhateverIsWanting(t *testing.T) { // P24.3: P0.5
	t.Parallel()
	full := 0
	for seed := range int64(14) {
		full += stress(t, seed, tight(rand.New(rand.NewSource(-seed))), 60)["2 5"]
	}
	if full == 0 {
		t.Error("cells were never wanting")
	}
}
