package tasks

import (
	"slices"

	"garner/api"
)

// Act does a task's actions.
type Act struct{ run *run }

// run is one calling of a function: a step of a task, or a function alone.
type run struct {
	machine *Machine
	kept    []any // what was answered so far, ahead of this step too
	at      int   // how many of these the function has asked for
	alone   bool
	left    bool // this step's action is done
	over    bool
}

// leave is what a function is left by; whose it is, so that machines in machines do not mix.
type leave struct{ run *run }

// do calls the function: what it answered, and whether it did.
func (r *run) do(t Task) (answer any, ended bool) {
	defer func() {
		r.over = true
		caught := recover()
		if l, ok := caught.(leave); ok && l.run != r {
			panic(l)
		}
		// What else a function panics with ends it, without an answer: nobody above is to fall by it.
		if ended = !r.left; caught != nil || !ended {
			answer = nil
		}
		if caught != nil && r.alone {
			ended = false
		}
	}()
	return t(&Act{r}), true
}

// leave leaves the function in its midst.
func (r *run) leave() {
	r.left = true
	panic(leave{r})
}

// nobody: a nil Act's, or that of a step that is over.
func (a *Act) nobody() bool {
	return a == nil || a.run == nil || a.run.over
}

// errno is what an action upon the disk tells when nobody does it.
func (a *Act) errno() api.Errno {
	if a == nil || a.run == nil {
		return api.ErrNil
	}
	return api.OK
}

// act answers what the action was answered, or does it; do also says whether it is passed.
func act[T any](a *Act, do func(m *Machine) (T, bool)) T {
	var none T
	if a.nobody() {
		return none
	}
	r := a.run
	if r.left {
		r.leave()
	}
	if r.at < len(r.kept) {
		answer, ok := r.kept[r.at].(T)
		r.at++
		if ok {
			return answer
		}
		return none
	}
	answer, passed := do(r.machine)
	if !passed {
		r.leave()
	}
	if r.alone {
		return answer
	}
	r.kept = append(r.kept, answer)
	r.leave()
	return none
}

// always is an action that is passed at once.
func always[T any](a *Act, do func(m *Machine) T) T {
	return act(a, func(m *Machine) (T, bool) { return do(m), true })
}

// touch counts an action upon a cell that nobody has taken.
func (m *Machine) touch(at uint64) {
	if at >= api.Base && at < uint64(m.arena.Size()) && !m.arena.Taken(at) {
		m.stray++
	}
}

// none is what an action is answered that answers nothing.
type none struct{}

// told is a word, and whether something was done.
type told struct {
	word uint64
	ok   bool
}

// file is what a file was read as.
type file struct {
	bytes []byte
	errno api.Errno
}

// Load reads a cell.
func (a *Act) Load(at uint64) uint64 {
	return always(a, func(m *Machine) uint64 {
		m.touch(at)
		word, _ := m.arena.Load(at)
		return word
	})
}

// Store writes one.
func (a *Act) Store(at, word uint64) {
	always(a, func(m *Machine) none {
		m.touch(at)
		m.arena.Store(at, word)
		return none{}
	})
}

// Swap swaps one.
func (a *Act) Swap(at, was, is uint64) (uint64, bool) {
	t := always(a, func(m *Machine) told {
		m.touch(at)
		word, ok, _ := m.arena.Swap(at, was, is)
		return told{word, ok}
	})
	return t.word, t.ok
}

// Add adds to one.
func (a *Act) Add(at, n uint64) uint64 {
	return always(a, func(m *Machine) uint64 {
		m.touch(at)
		word, _ := m.arena.Add(at, n)
		return word
	})
}

// Await reads one till it is as it should be.
func (a *Act) Await(at uint64, is func(word uint64) bool) uint64 {
	return act(a, func(m *Machine) (uint64, bool) {
		m.touch(at)
		word, _ := m.arena.Load(at)
		return word, is(word)
	})
}

// Take takes a piece.
func (a *Act) Take(n int) (uint64, bool) {
	t := always(a, func(m *Machine) told {
		at, e := m.arena.Take(n)
		return told{at, e == api.OK}
	})
	return t.word, t.ok
}

// Give gives one back.
func (a *Act) Give(at uint64) bool {
	return always(a, func(m *Machine) bool {
		_, e := m.arena.Give(at)
		return e == api.OK
	})
}

// Push puts bytes into a box.
func (a *Act) Push(box int, b []byte) {
	always(a, func(m *Machine) none {
		if m.hasBox(box) {
			m.boxes[box] = append(m.boxes[box], slices.Clone(b))
			m.pushed[box]++
		}
		return none{}
	})
}

// Pull takes all out of one.
func (a *Act) Pull(box int) [][]byte {
	return cloneAll(always(a, func(m *Machine) [][]byte {
		if !m.hasBox(box) {
			return nil
		}
		all := m.boxes[box]
		m.boxes[box] = nil
		return all
	}))
}

// ask is an action upon the disk that answers an error alone.
func (a *Act) ask(do func(m *Machine) api.Errno) api.Errno {
	if a.nobody() {
		return a.errno()
	}
	return always(a, do)
}

// Append appends to a file.
func (a *Act) Append(name string, b []byte) api.Errno {
	return a.ask(func(m *Machine) api.Errno { return m.disk.Append(name, b) })
}

// Sync syncs one.
func (a *Act) Sync(name string) api.Errno {
	return a.ask(func(m *Machine) api.Errno { return m.disk.Sync(name) })
}

// Rename renames one.
func (a *Act) Rename(from, to string) api.Errno {
	return a.ask(func(m *Machine) api.Errno { return m.disk.Rename(from, to) })
}

// Remove removes one.
func (a *Act) Remove(name string) api.Errno {
	return a.ask(func(m *Machine) api.Errno { return m.disk.Remove(name) })
}

// Read reads one.
func (a *Act) Read(name string) ([]byte, api.Errno) {
	if a.nobody() {
		return nil, a.errno()
	}
	f := always(a, func(m *Machine) file {
		b, e := m.disk.Read(name)
		return file{b, e}
	})
	return slices.Clone(f.bytes), f.errno
}

// Names are all files'.
func (a *Act) Names() []string {
	return slices.Clone(always(a, func(m *Machine) []string { return m.disk.Names() }))
}
