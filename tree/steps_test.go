package tree

import (
	"fmt"
	"maps"
	"math/rand"
	"slices"
	"testing"

	"garner/api"
	"garner/cells"
	"garner/disk"
	"garner/slice"
	"garner/tasks"
)

// Keys that are there all the time, and an owner's.
func lasting(i int) string { return fmt.Sprintf("%c", 'a'+i*2) }

func deep(i int) string {
	return fmt.Sprintf("abcdefgh%c%s", 'a'+i*2, []string{"", "x", "xyzxyzxyz"}[i%3])
}

func own(owner, i int) string {
	form := []string{"%c", "abcdefgh%c", "abcdefgh%cxyzxyz", "abcdefghabcdefgh%c"}[(owner+i)%4]
	return fmt.Sprintf(form, 'b'+2*(3*i+owner))
}

const (
	out = iota // an owner's key is not there
	in
	between
)

// world is a tree, with keys that are there all the time, and owners that put keys in and out.
type world struct {
	m      *tasks.Machine
	width  int
	states map[string]int // of the owners' keys
	times  map[string]int // how often its state changed
	stays  []string
}

func rec(key string) uint64 {
	h := uint64(1000)
	for _, c := range []byte(key) {
		h = h*31 + uint64(c)
	}
	return h
}

func newWorld(t *testing.T, r *rand.Rand, size int) *world {
	w := &world{machine(t, size), 3 + r.Intn(3), map[string]int{}, map[string]int{}, nil}
	plant(t, w.m, w.width)
	alone(t, w.m, func(a *tasks.Act) {
		for i := range 6 {
			for _, k := range []string{lasting(i), deep(i)} {
				Insert(a, cell, w.width, []byte(k), rec(k))
				w.stays = append(w.stays, k)
			}
		}
	})
	slices.Sort(w.stays)
	return w
}

// set notes a key's state; each step does its function from its beginning on, so it counts only what is new.
func (w *world) set(key string, state, at int) {
	if at >= w.times[key] {
		w.states[key], w.times[key] = state, at+1
	}
}

// owner puts its keys in and takes some of them out again.
func (w *world) owner(n, keys int) {
	w.m.Begin(func(a *tasks.Act) any {
		for round := range 2 {
			for i := range keys {
				k := own(n, i)
				w.set(k, between, 4*round)
				_, e := Insert(a, cell, w.width, []byte(k), rec(k))
				if e == api.OK {
					w.set(k, in, 4*round+1)
				} else {
					w.set(k, out, 4*round+1)
				}
			}
			for i := range keys {
				if k := own(n, i); i%3 > 0 || round == 0 {
					w.set(k, between, 4*round+2)
					Remove(a, cell, w.width, []byte(k), rec(k))
					w.set(k, out, 4*round+3)
				}
			}
		}
		return nil
	}, nil)
}

// moment is how the owners' keys stood.
type moment struct {
	states, times map[string]int
}

// reader gets, over and over; asked once of each reading is whether it may be.
func (w *world) reader(t *testing.T, seed int64) {
	judged := 0
	now := func() moment { return moment{maps.Clone(w.states), maps.Clone(w.times)} }
	var begun, looked moment
	begins := 0
	w.m.Begin(func(a *tasks.Act) any {
		r := rand.New(rand.NewSource(seed))
		for turn := range 30 {
			if begins <= turn {
				begun, begins = now(), turn+1
			}
			k := own(r.Intn(2), r.Intn(8))
			if r.Intn(3) == 0 {
				k = w.stays[r.Intn(len(w.stays))]
			}
			got, s := Get(a, cell, w.width, []byte(k))
			if judged <= 2*turn {
				judged = 2*turn + 1
				stays := slices.Contains(w.stays, k)
				calm := !stays && begun.times[k] == w.times[k]
				if stays && got == 0 || got != 0 && got != rec(k) || calm && w.states[k] == in && got == 0 || calm && w.states[k] == out && got != 0 {
					t.Fatalf("seed %d: Get of %q is %d; it was %d, is %d", seed, k, got, begun.states[k], w.states[k])
				}
				looked = now()
			}
			a.Load(0)
			ok := Seen(a, s)
			if judged <= 2*turn+1 {
				judged = 2*turn + 2
				if ok && looked.times[k] != w.times[k] && w.states[k] != between && looked.states[k] != between && w.states[k] != looked.states[k] {
					t.Fatalf("seed %d: %q has changed, and its border has not", seed, k)
				}
			}
		}
		return nil
	}, nil)
}

// scanner scans, over and over.
func (w *world) scanner(t *testing.T, seed int64) {
	judged, begins, asked, compared := 0, 0, 0, 0
	var begun map[string]int
	var behind moment
	now := func() moment { return moment{maps.Clone(w.states), maps.Clone(w.times)} }
	w.m.Begin(func(a *tasks.Act) any {
		for turn := range 6 {
			if begins <= turn {
				begun, begins = maps.Clone(w.times), turn+1
			}
			got, saw := scanned(a, w.width, "")
			if judged <= turn {
				judged = turn + 1
				told := map[string]bool{}
				for i, p := range got {
					if told[p.key] = true; i > 0 && p.key <= got[i-1].key || p.rec != rec(p.key) {
						t.Fatalf("seed %d: Scan is %v", seed, got)
					}
				}
				for _, k := range w.stays {
					if !told[k] {
						t.Fatalf("seed %d: Scan without %q: %v", seed, k, got)
					}
				}
				for k, state := range w.states {
					if begun[k] == w.times[k] && state != between && told[k] != (state == in) {
						t.Fatalf("seed %d: Scan has %q: %v, which is %d", seed, k, told[k], state)
					}
				}
			}
			a.Load(0)
			if asked <= turn {
				asked, behind = turn+1, now()
			}
			same := true
			for _, s := range saw {
				same = same && Seen(a, s)
			}
			if compared <= turn {
				compared = turn + 1
				for k, state := range behind.states {
					told := slices.Contains(got, pair{k, rec(k)})
					if same && state != between && behind.times[k] == w.times[k] && told != (state == in) {
						t.Fatalf("seed %d: %q is %d, told: %v, and no border has changed", seed, k, state, told)
					}
				}
			}
		}
		return nil
	}, nil)
}

func TestWhateverSteps(t *testing.T) { // P12.6, P0.8
	t.Parallel()
	for seed := range int64(16) {
		r := rand.New(rand.NewSource(seed))
		size := 30000
		if seed%4 == 0 {
			size = 1024 + r.Intn(500) // cells are wanting
		}
		w := newWorld(t, r, size)
		w.owner(0, 8)
		w.owner(1, 8)
		w.reader(t, seed)
		w.scanner(t, seed)
		n := 0
		for ; len(w.m.Going()) > 0; n++ {
			w.m.Pick(r.Intn(64) / (1 + r.Intn(20)))
			if n > 300000 {
				t.Fatalf("seed %d: it does not end", seed)
			}
		}
		is := map[string]uint64{}
		for _, k := range w.stays {
			is[k] = rec(k)
		}
		for k, state := range w.states {
			if state == in {
				is[k] = rec(k)
			}
		}
		alone(t, w.m, func(a *tasks.Act) {
			if got, _ := scanned(a, w.width, ""); !slices.Equal(got, sorted(is, "")) {
				t.Fatalf("seed %d: Scan is %v, want %v", seed, got, sorted(is, ""))
			}
		})
		sound(t, w.m, w.width, len(is))
		if w.m.Stray() != 0 {
			t.Fatalf("seed %d: Stray is %d", seed, w.m.Stray())
		}
	}
}

// lies is the border in which a key lies, found without waiting, and whether it is locked.
func (w *world) lies(root uint64, key []byte) bool {
	load := func(at uint64) uint64 { v, _ := w.m.Arena().Load(at); return v }
	n := root
	for load(n)&api.NodeBorder == 0 {
		n = load(n + keysAt + uint64(2*w.width))
	}
	k, _ := slice.Of(key, 0)
	for next := load(n + nextAt); next != 0; next = load(n + nextAt) {
		if slice.Compare(k, api.Slice{Word: load(next + fromAt), Len: int(load(next + fromAt + 1))}) < 0 {
			break
		}
		n = next
	}
	if load(n)&api.NodeLocked != 0 {
		return true
	}
	order := load(n + orderAt)
	for i := range int(order & 15) {
		at := n + placesAt + order>>(4*(i+1))&15
		if k.Len == 9 && load(at) == k.Word && load(at+uint64(w.width)) == 9 && load(at+uint64(3*w.width)) == 0 {
			return w.lies(load(at+uint64(2*w.width)), key[8:])
		}
	}
	return false
}

// TestNobodyWaitsInVain stops writers at each of their steps: whoever looks for a key that lies in no locked border ends.
func TestNobodyWaitsInVain(t *testing.T) { // P12.6
	t.Parallel()
	for seed := range int64(4) {
		r := rand.New(rand.NewSource(seed))
		w := newWorld(t, r, 20000)
		w.owner(0, 6)
		w.owner(1, 6)
		waits, ends := 0, 0
		for len(w.m.Going()) > 0 {
			w.m.Pick(r.Intn(2))
			if r.Intn(4) > 0 {
				continue
			}
			d, _ := disk.New(1024)
			m, _ := tasks.New(w.m.Arena().Copy(), d)
			root, _ := w.m.Arena().Load(cell)
			for _, k := range w.stays {
				for i, f := range []tasks.Task{
					func(a *tasks.Act) any { got, _ := Get(a, cell, w.width, []byte(k)); return got == rec(k) },
					func(a *tasks.Act) any { l, _ := Insert(a, cell, w.width, []byte(k), 5); return l.There },
					func(a *tasks.Act) any { _, ok := Remove(a, cell, w.width, []byte(k), 5); return !ok },
				} {
					v, ok := m.Alone(f)
					if ok {
						if ends++; v != true {
							t.Fatalf("seed %d: call %d of %q answers wrong", seed, i, k)
						}
					} else if waits++; !w.lies(root, []byte(k)) {
						t.Fatalf("seed %d: call %d of %q waits, and its border is not locked", seed, i, k)
					}
				}
			}
		}
		if waits == 0 || ends == 0 {
			t.Fatalf("seed %d: %d wait, %d end", seed, waits, ends)
		}
	}
}

// over begins tasks over a copy of an arena.
func over(a *cells.Arena, l ...tasks.Task) *tasks.Machine {
	d, _ := disk.New(1024)
	m, _ := tasks.New(a.Copy(), d)
	for _, f := range l {
		m.Begin(f, nil)
	}
	return m
}

// end does one task's steps up to its end, or till it only waits; then the others'.
func end(m *tasks.Machine) {
	for len(m.Going()) > 0 {
		for _, n := range m.Going() {
			for waits := 0; waits < 3; {
				at, _ := m.At(n)
				if m.Step(n) != api.OK {
					break
				}
				if is, _ := m.At(n); is.Done == at.Done && !is.Ended {
					waits++
				} else {
					waits = 0
				}
			}
		}
	}
}

// steps is how many steps a task has alone.
func steps(a *cells.Arena, f tasks.Task) int {
	m := over(a, f)
	end(m)
	at, _ := m.At(0)
	return at.Steps
}

func inserts(width int, key string) tasks.Task {
	return func(a *tasks.Act) any {
		l, e := Insert(a, cell, width, []byte(key), rec(key))
		return e == api.OK && l.Record == rec(key)
	}
}

func removes(width int, key string) tasks.Task {
	return func(a *tasks.Act) any { _, ok := Remove(a, cell, width, []byte(key), rec(key)); return ok }
}

func gets(width int, key string) tasks.Task {
	return func(a *tasks.Act) any { got, _ := Get(a, cell, width, []byte(key)); return got == rec(key) }
}

// full is a tree of so many keys, each behind an elder one.
func full(t *testing.T, width, n int) (*cells.Arena, map[string]uint64) {
	m := machine(t, 4096)
	plant(t, m, width)
	is := map[string]uint64{}
	alone(t, m, func(a *tasks.Act) {
		for i := range n {
			k := fmt.Sprintf("%c", 'A'+2*(i*7%n))
			if i%5 == 4 {
				k = "abcdefgh" + k
			}
			Insert(a, cell, width, []byte(k), rec(k))
			is[k] = rec(k)
		}
	})
	return m.Arena(), is
}

// splits is an insert behind a key that will split a border, and inner nodes above it, if cells are taken for these; what is to be full for that is filled.
func splits(t *testing.T, arena *cells.Arena, width int, key string, inner bool) tasks.Task {
	for i := 0; ; i++ {
		k := fmt.Sprintf("%s%02d", key, i)
		tries := over(arena)
		will := false
		alone(t, tries, func(a *tasks.Act) {
			free := tries.Arena().Free()
			l, _ := Insert(a, cell, width, []byte(k), rec(k))
			will = len(l.Changed) > 1 && l.Lost == nil && inner == (free-tries.Arena().Free() > 18)
		})
		if will {
			return inserts(width, k)
		}
		d, _ := disk.New(1024)
		m, _ := tasks.New(arena, d)
		alone(t, m, func(a *tasks.Act) { Insert(a, cell, width, []byte(k), rec(k)) })
	}
}

// TestBetweenAnyTwoSteps lets a task stop at each of its steps while another one goes on as far as may be.
func TestBetweenAnyTwoSteps(t *testing.T) { // P12.6
	t.Parallel()
	const width = 3
	arena, is := full(t, width, 18)
	keys := slices.Sorted(maps.Keys(is))
	first, mid, last, low := keys[0], keys[len(keys)/2], keys[len(keys)-1], "abcdefghA"
	both := func(x, y tasks.Task) tasks.Task {
		return func(a *tasks.Act) any { return x(a) == true && y(a) == true }
	}
	writers := map[string]tasks.Task{
		"a split at the beginning": splits(t, arena, width, first, false),
		"a split in the midst":     splits(t, arena, width, mid, true),
		"another one there":        splits(t, arena, width, mid+"5", false),
		"a split at the end":       splits(t, arena, width, last, true),
		"a slot used anew":         both(removes(width, last), inserts(width, last+"0")),
		"a layer":                  inserts(width, low+"xyzxyzxyzxyz"),
		"a split in a layer":       splits(t, arena, width, low, true),
	}
	need := map[string]int{}
	for what, f := range writers {
		need[what] = steps(arena, f)
	}
	for what, y := range writers {
		for n, k := range keys {
			if k == last && what == "a slot used anew" { // it is taken out
				continue
			}
			for i := range steps(arena, gets(width, k)) {
				stride := 3 // not all of them with each other: that would take long
				if i > 0 {
					stride = 19
				}
				for j := need[what] - (i+n)%stride; j > 0 && (i == 0 || n%6 == 0); j -= stride {
					m := over(arena, gets(width, k), y)
					run(m, 0, i)
					run(m, 1, j)
					end(m)
					if at, _ := m.At(0); at.Answer != true {
						t.Fatalf("%d steps of %s behind %d steps of Get: %q is not found", j, what, i, k)
					}
				}
			}
		}
		for other, x := range writers {
			for i := 0; i < need[other] && other <= what; i += 17 {
				for j := 1 + i%19; j < need[what]; j += 19 {
					m := over(arena, x, y)
					run(m, 0, i)
					run(m, 1, j)
					end(m)
					a0, _ := m.At(0)
					a1, _ := m.At(1)
					alone(t, m, func(a *tasks.Act) {
						if n, ok := Check(a, cell, width); !ok || other != what && (a0.Answer != true || a1.Answer != true) || n < len(is) {
							t.Fatalf("%d steps of %s, %d of %s: %d keys, %v", i, other, j, what, n, ok)
						}
					})
					if m.Stray() != 0 {
						t.Fatalf("%d steps of %s, %d of %s: Stray is %d", i, other, j, what, m.Stray())
					}
				}
			}
		}
	}
}

// run does some steps of a task.
func run(m *tasks.Machine, task, n int) {
	for range n {
		m.Step(task)
	}
}
