package txn

import (
	"cmp"
	"slices"

	"garner/api"
	"garner/log"
	"garner/record"
	"garner/tid"
	"garner/tree"
)

// looks is how often one looks anew at a record: at one of the read set that another one has locked (who collects holds records for some few steps, and changes nothing that was read; to wait longer would be to wait in a ring), and at a key whose record is dead.
const looks = 32

// commit locks, takes a number, asks whether all is so yet, and installs.
func (w *work) commit() {
	slices.SortFunc(w.writes, func(x, y *write) int { return cmp.Compare(x.record, y.record) })
	w.furnish()
	for _, x := range w.writes {
		x.was = record.Lock(w.a, x.record)
		x.locked = true
	}
	number := w.a.Add(api.CellNumbers, api.WordStep)
	w.number = api.TID{Epoch: tid.Epoch(number), Seq: tid.Number(number)}
	if !tid.May(number) || w.number.Epoch == 0 || w.number.Seq == 0 {
		fail(api.ErrFull)
	}
	if !w.valid() {
		fail(api.ErrConflict)
	}
	w.install(number)
}

// furnish lays the rows, and takes a piece for an elder version of each record.
func (w *work) furnish() {
	for _, x := range w.writes {
		if len(x.row) == 0 || !x.there {
			continue
		}
		at, e := record.Lay(w.a, x.row)
		if e != api.OK {
			fail(api.ErrFull)
		}
		x.laid = at
	}
	for _, x := range w.writes {
		at, ok := w.a.Take(api.RecordCells)
		if !ok {
			fail(api.ErrFull)
		}
		x.spare = at
	}
}

// valid: is all that was read so yet?
func (w *work) valid() bool {
	mine := map[uint64]*write{}
	for _, x := range w.writes {
		mine[x.record] = x
		if tid.Dead(x.was) {
			return false
		}
	}
	for _, rec := range w.read {
		word := w.reads[rec]
		if x, ok := mine[rec]; ok {
			if x.was != word {
				return false
			}
		} else if !w.yet(rec, word) {
			return false
		}
	}
	for _, n := range w.seen {
		if !tree.Seen(w.a, api.Seen{Node: n, Version: w.nodes[n]}) {
			return false
		}
	}
	return true
}

// yet: has a record that word yet, and nobody has locked it?
func (w *work) yet(rec, word uint64) bool {
	for range looks {
		is := w.a.Load(rec)
		if is != word|api.WordLocked {
			return is == word
		}
	}
	return false
}

// install gives each record its row and the number.
func (w *work) install(number uint64) {
	var left []uint64
	for _, x := range w.writes {
		lost, used := record.Install(w.a, x.record, x.was, tid.With(number, false, false, !x.there), x.laid, x.spare)
		w.lost = append(w.lost, lost...)
		if !used {
			left = append(left, x.spare)
		}
	}
	for _, spare := range left {
		w.a.Give(spare)
	}
}

// undo unlocks what is locked, and gives back what nobody has found.
func (w *work) undo() {
	for _, x := range w.writes {
		if x.locked {
			record.Unlock(w.a, x.record, x.was)
		}
	}
	for _, x := range w.writes {
		for _, piece := range [...]uint64{x.laid, x.spare} {
			if piece != 0 {
				w.a.Give(piece)
			}
		}
	}
}

// send pushes what was written into the worker's box, or tells that nothing was.
func (w *work) send(o api.Outcome) {
	if len(o.Writes) == 0 {
		w.a.Push(w.seat.Told, nil)
		return
	}
	frame, _ := log.PutTxn(api.Logged{TID: o.TID, Writes: o.Writes})
	w.a.Push(w.seat.Box, frame)
}

// drop tells what is found no more, behind the epoch.
func (w *work) drop() {
	if len(w.lost) == 0 {
		return
	}
	b := address(uint64(w.epoch))
	for _, piece := range w.lost {
		b = append(b, address(piece)...)
	}
	w.a.Push(w.seat.Lost, b)
}

// address is a word's bytes, the highest first.
func address(word uint64) []byte {
	b := make([]byte, addressBytes)
	for i := range b {
		b[addressBytes-1-i] = byte(word)
		word >>= byteBits
	}
	return b
}
