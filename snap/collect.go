package snap

import (
	"slices"

	"garner/api"
	"garner/catalog"
	"garner/epoch"
	"garner/record"
	"garner/tasks"
	"garner/tid"
	"garner/tree"
)

// How addresses stand in a box, and where a record's elder version is.
const (
	addressBytes = 8
	byteBits     = 8
	elderAt      = 2
)

// collector goes over all trees.
type collector struct {
	a      *tasks.Act
	job    api.Job
	needed int64
	found  []uint64
}

// Collect does a round.
func Collect(a *tasks.Act, j api.Job, l []api.Waste) []api.Waste {
	var all []api.Waste
	for _, w := range l {
		all = append(all, api.Waste{Epoch: w.Epoch, Cells: slices.Clone(w.Cells)})
	}
	if a == nil || catalog.Check(j) != api.OK {
		return all
	}
	c := &collector{a: a, job: j, needed: epoch.Needed(a, j.Workers)}
	for n := range catalog.All(j) {
		c.tree(n)
	}
	if cells := append(c.told(), c.found...); len(cells) > 0 {
		all = append(all, api.Waste{Epoch: epoch.Now(a), Cells: cells})
	}
	return slices.DeleteFunc(all, func(w api.Waste) bool {
		if !epoch.Passed(a, j.Workers, w.Epoch) {
			return false
		}
		for _, piece := range w.Cells {
			a.Give(piece)
		}
		return true
	})
}

// tree goes over a tree's records.
func (c *collector) tree(n int) {
	tree.Scan(c.a, cell(n), c.job.Width, nil, func(api.Seen) {}, func(key []byte, rec uint64) bool {
		if c.long(rec) {
			c.found = append(c.found, record.Trim(c.a, rec, c.needed)...)
		}
		if c.over(c.a.Load(rec)) {
			c.remove(n, key, rec)
		}
		return true
	})
}

// long: has a record elder versions that nobody needs? Just these are locked: a record that is locked in vain would let others abort.
func (c *collector) long(rec uint64) bool {
	at := rec
	for range api.MaxCells / api.RecordCells { // it can't have more
		over := tid.Epoch(c.a.Load(at)) <= c.needed
		if at = c.a.Load(at + elderAt); over || at == 0 {
			return over && at != 0
		}
	}
	return false
}

// over: is who has that word absent for each that anybody may read, and nobody writing it?
func (c *collector) over(word uint64) bool {
	return tid.Absent(word) && !tid.Dead(word) && !tid.Locked(word) && tid.Epoch(word) <= c.needed
}

// remove takes a record out of its tree, if it is absent yet.
func (c *collector) remove(n int, key []byte, rec uint64) {
	word := record.Lock(c.a, rec)
	if c.over(word) {
		if tails, ok := tree.Remove(c.a, cell(n), c.job.Width, key, rec); ok {
			word = tid.With(word, false, true, true)
			c.found = append(append(c.found, rec), tails...)
		}
	}
	record.Unlock(c.a, rec, word)
}

// told is what the workers' boxes say: of each push the addresses behind the epoch. (That one does not count: who came behind it may have found them yet.)
func (c *collector) told() []uint64 {
	var l []uint64
	for w := range c.job.Workers {
		for _, b := range c.a.Pull(api.MaxWorkers + w) {
			l = append(l, addresses(b)...)
		}
	}
	return l
}

// addresses are the words behind the first one.
func addresses(b []byte) []uint64 {
	var l []uint64
	for ; len(b) >= 2*addressBytes; b = b[addressBytes:] {
		word := uint64(0)
		for _, c := range b[addressBytes : 2*addressBytes] {
			word = word<<byteBits | uint64(c)
		}
		l = append(l, word)
	}
	return l
}
