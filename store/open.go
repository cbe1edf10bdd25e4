package store

import (
	"garner/api"
	"garner/catalog"
	"garner/cells"
	"garner/ckpt"
	"garner/disk"
	"garner/epoch"
	"garner/record"
	recovery "garner/recover"
	"garner/tasks"
	"garner/tid"
	"garner/tree"
	"garner/txn"
)

// opener is the first task.
const opener = 0

// open begins to open over a disk.
func (s *Store) open(d *disk.Disk) api.Errno {
	said, e := recovery.Recover(d, s.job)
	if e != api.OK {
		return e
	}
	arena, _ := cells.New(s.job.Cells)
	machine, e := tasks.New(arena, d)
	if e != api.OK {
		return e
	}
	s.machine, s.said, s.manifest = machine, said, api.Manifest{}
	s.opens, s.stuck, s.next = true, false, 0
	first, _ := s.opening(0)
	machine.Begin(first, s.nextOpening)
	return api.OK
}

// opening is what the n-th function of the first task does: the manifest, the cells, a tree, a row.
func (s *Store) opening(n int) (tasks.Task, bool) {
	switch n {
	case 0:
		return s.layManifest, true
	case 1:
		return s.layCells, true
	}
	n -= 2
	if trees := catalog.Trees(s.job); n < trees {
		return func(a *tasks.Act) any { return tree.Make(a, api.CellRoot+uint64(n), s.job.Width) }, true
	} else {
		n -= trees
	}
	for table, l := range s.said.Tables {
		if n < len(l) {
			return func(a *tasks.Act) any { return s.layRow(a, table, l[n]) }, true
		}
		n -= len(l)
	}
	return nil, false
}

// nextOpening is the next of these functions, unless cells are wanting.
func (s *Store) nextOpening(last any) (tasks.Task, bool) {
	switch x := last.(type) {
	case api.Manifest:
		s.manifest = x
	case api.Errno:
		s.stuck = x != api.OK
	default:
		s.stuck = true
	}
	if s.stuck {
		return nil, false
	}
	s.next++
	return s.opening(s.next)
}

// opened asks whether the first task is at its end, and lets the others begin.
func (s *Store) opened() {
	if at, _ := s.machine.At(opener); !at.Ended {
		return
	}
	s.opens = false
	if !s.stuck {
		s.durable = int64(s.word(api.CellDurable))
		s.begin()
	}
}

// layManifest lays the next generation's manifest, or a zero one, if the disk refuses it.
func (s *Store) layManifest(a *tasks.Act) any {
	m, _ := ckpt.Open(a, s.job, s.said)
	return m
}

// layCells lays the cells of epochs: a new one begins, above all that was ever seen.
func (s *Store) layCells(a *tasks.Act) any {
	last := s.said.Greatest
	if last >= api.MaxEpoch {
		return api.ErrFull
	}
	epoch.Start(a, last+1)
	a.Store(api.CellSnapshots, uint64(last))
	a.Store(api.CellDurable, uint64(last))
	for l := range s.job.Loggers {
		a.Store(api.CellLogger+uint64(l), uint64(last))
	}
	return api.OK
}

// layRow lays a row into its table, and its entries into the indexes.
func (s *Store) layRow(a *tasks.Act, table int, x api.Stored) any {
	word, e := tid.Word(x.TID.Epoch, x.TID.Seq)
	if e != api.OK {
		return e
	}
	at, e := record.Lay(a, x.Row)
	if e != api.OK {
		return e
	}
	cell, _ := txn.Cell(s.job, table, -1)
	if e := s.layRecord(a, cell, x.Key, word, at); e != api.OK {
		return e
	}
	entries, _ := catalog.Entries(s.job, table, x.Key, x.Row)
	for _, entry := range entries {
		if e := s.layRecord(a, api.CellRoot+uint64(entry.Tree), entry.Key, word, 0); e != api.OK {
			return e
		}
	}
	return api.OK
}

// layRecord lays a record of that word and row into a tree.
func (s *Store) layRecord(a *tasks.Act, cell uint64, key []byte, word, row uint64) api.Errno {
	rec, e := record.New(a)
	if e != api.OK {
		return e
	}
	record.Install(a, rec, record.Lock(a, rec), word, row, 0)
	laid, e := tree.Insert(a, cell, s.job.Width, key, rec)
	for _, piece := range laid.Lost {
		a.Give(piece) // nobody else is there yet who could have found it
	}
	return e
}
