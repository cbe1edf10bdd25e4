package txn

import (
	"bytes"
	"slices"

	"garner/api"
	"garner/catalog"
	"garner/record"
	"garner/row"
	"garner/tasks"
	"garner/tid"
	"garner/tree"
)

// key is a key of a tree.
type key struct {
	tree  int
	bytes string
}

// write is a record of the write set.
type write struct {
	key    key
	record uint64
	row    api.Row
	there  bool // has it a row then? (An index's entry has none, and is there.)
	laid   uint64
	spare  uint64
	was    uint64 // the word that it had when it was locked
	locked bool
}

// work is a transaction that is being done.
type work struct {
	a       *tasks.Act
	seat    api.Seat
	epoch   int64
	reads   map[uint64]uint64 // the read set: of each record its word
	read    []uint64          // its records, as they were noted
	nodes   map[uint64]uint64 // the node set: of each border its version
	seen    []uint64          // its borders, as they were noted
	own     map[key]*write    // the write set
	writes  []*write
	results []api.Result
	number  api.TID
	lost    []uint64 // what is found no more
}

func (w *work) width() int { return w.seat.Job.Width }

// tree is the number of a table's tree, or of its index's.
func (w *work) tree(table, index int) int {
	n, _ := catalog.Tree(w.seat.Job, table, index)
	return n
}

// note puts a record into the read set. Who reads it twice, and finds it changed, can't commit any more.
func (w *work) note(rec, word uint64) {
	was, ok := w.reads[rec]
	switch {
	case !ok:
		w.reads[rec] = word
		w.read = append(w.read, rec)
	case was != word:
		fail(api.ErrConflict)
	}
}

func same(a, b uint64) bool { return (a^b)&^api.NodeLocked == 0 }

// noteNode does the same with a border.
func (w *work) noteNode(s api.Seen) {
	was, ok := w.nodes[s.Node]
	switch {
	case !ok:
		w.nodes[s.Node] = s.Version
		w.seen = append(w.seen, s.Node)
	case !same(was, s.Version):
		fail(api.ErrConflict)
	}
}

// takeOver notes what an own insert has made of borders of the node set.
func (w *work) takeOver(l []api.Change) {
	noted := false
	for _, c := range l {
		if c.Was != 0 {
			version, ok := w.nodes[c.Node]
			if noted = ok && same(version, c.Was); noted {
				w.nodes[c.Node] = c.Is
			}
		} else if noted {
			w.noteNode(api.Seen{Node: c.Node, Version: c.Is})
		}
	}
}

// held is what a key has: its record and that one's word and row, or the border where it is missing.
type held struct {
	record, word uint64
	row          api.Row
	seen         api.Seen
}

// there tells whether who has that word has a row.
func there(word uint64) bool { return !tid.Absent(word) && !tid.Dead(word) }

// look finds a key in the index; a record that is dead is in it no more.
func (w *work) look(k key) held {
	for range looks {
		rec, seen := tree.Get(w.a, cell(k.tree), w.width(), []byte(k.bytes))
		if rec == 0 {
			return held{seen: seen}
		}
		word, r := record.Read(w.a, rec)
		if !tid.Dead(word) {
			return held{record: rec, word: word, row: r}
		}
	}
	fail(api.ErrConflict)
	return held{}
}

// place finds a key, or puts a new record there.
func (w *work) place(k key) held {
	for range looks {
		if h := w.look(k); h.record != 0 {
			return h
		}
		if h := w.insert(k); h.record != 0 {
			return h
		}
	}
	fail(api.ErrConflict)
	return held{}
}

// insert puts a new record into the index, unless somebody else was ahead.
func (w *work) insert(k key) held {
	rec, e := record.New(w.a)
	if e != api.OK {
		fail(api.ErrFull)
	}
	// It has the worker's epoch ahead of its being found: so nobody collects it while its worker is in that.
	word, _ := tid.Word(w.epoch, 0)
	word = tid.With(word, false, false, true)
	record.Unlock(w.a, rec, word)
	laid, e := tree.Insert(w.a, cell(k.tree), w.width(), []byte(k.bytes), rec)
	if e != api.OK || laid.There {
		w.a.Give(rec)
	}
	if e != api.OK {
		fail(api.ErrFull)
	}
	if laid.There {
		return held{}
	}
	w.takeOver(laid.Changed)
	w.lost = append(w.lost, laid.Lost...)
	w.note(rec, word)
	return held{record: rec, word: word}
}

// asked finds a key upon which an answer hangs: its record is noted, or the border where it is missing.
func (w *work) asked(k key) held {
	h := w.look(k)
	if h.record == 0 {
		w.noteNode(h.seen)
	} else {
		w.note(h.record, h.word)
	}
	return h
}

// find is a key's row, as this transaction reads it.
func (w *work) find(k key) (api.Row, bool) {
	if own, ok := w.own[k]; ok {
		return own.row, own.there
	}
	h := w.asked(k)
	return h.row, h.record != 0 && there(h.word)
}

// met is the row of a record that a scan meets at a key.
func (w *work) met(k key, rec uint64) (api.Row, bool) {
	if own, ok := w.own[k]; ok {
		return own.row, own.there
	}
	word, r := record.Read(w.a, rec)
	if tid.Dead(word) {
		fail(api.ErrConflict)
	}
	w.note(rec, word)
	return r, there(word)
}

// scan goes over the keys of a range that have rows, till what is handed in says no.
func (w *work) scan(r api.Range, row func(k []byte, r api.Row) bool) {
	tree.Scan(w.a, cell(r.Tree), w.width(), r.From, w.noteNode, func(k []byte, rec uint64) bool {
		if r.End && bytes.Compare(k, r.To) >= 0 {
			return false
		}
		is, ok := w.met(key{r.Tree, string(k)}, rec)
		return !ok || row(k, is)
	})
}

// lay puts a record into the write set.
func (w *work) lay(k key, h held) *write {
	x := &write{key: k, record: h.record, row: h.row, there: there(h.word)}
	w.own[k] = x
	w.writes = append(w.writes, x)
	return x
}

// set gives a table's key a row, or none.
func (w *work) set(table int, name []byte, r api.Row) {
	k := key{w.tree(table, -1), string(name)}
	x, ok := w.own[k]
	if !ok {
		h := w.place(k)
		// What the row was counts for the entries alone.
		if w.seat.Job.Tables[table] > 0 {
			w.note(h.record, h.word)
		}
		x = w.lay(k, h)
	}
	gone, come, _ := catalog.Changes(w.seat.Job, table, name, x.row, r)
	for _, e := range gone {
		w.entry(e, false)
	}
	for _, e := range come {
		w.entry(e, true)
	}
	x.row, x.there = row.Copy(r), len(r) > 0
}

// entry puts an index's entry in, or takes it out.
func (w *work) entry(e api.Entry, is bool) {
	k := key{e.Tree, string(e.Key)}
	x, ok := w.own[k]
	if !ok {
		h := held{}
		if is {
			h = w.place(k)
		} else if h = w.look(k); h.record == 0 {
			fail(api.ErrConflict) // the row that has it was read in the midst of another one's writing
		}
		x = w.lay(k, h)
	}
	x.there = is
}

// wrote are the writes to tables, rising.
func (w *work) wrote() []api.Write {
	var l []api.Write
	for _, x := range w.writes {
		if table, index, _ := catalog.Of(w.seat.Job, x.key.tree); index < 0 {
			l = append(l, api.Write{Table: table, Key: []byte(x.key.bytes), Row: row.Copy(x.row)})
		}
	}
	slices.SortFunc(l, func(a, b api.Write) int {
		if a.Table != b.Table {
			return a.Table - b.Table
		}
		return bytes.Compare(a.Key, b.Key)
	})
	return l
}
