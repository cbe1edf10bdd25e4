package tree

import (
	"bytes"

	"garner/api"
	"garner/node"
	"garner/perm"
	"garner/slice"
)

// layer is a tree of the trie: where its root stands, in a cell, or in a place of the layer above.
type layer struct {
	root  uint64
	cell  uint64
	above *layer
	key   api.Slice
}

// writer is who inserts.
type writer struct {
	walk
	laid  api.Laid
	fresh []uint64     // pieces that nobody finds yet
	above []api.Change // borders above, in which another root is told
}

// lock locks the border where a key lies, and reads it; where there is no tree, nothing.
func (w walk) lock(root uint64, k api.Slice) spot {
	n := w.leaf(root, k)
	for n != 0 {
		for next := w.right(n, k); next != 0; next = w.right(n, k) {
			n = next
		}
		v := node.Lock(w.a, n)
		p, i, there := node.Find(w.a, n, w.width, k)
		// Somebody may have split it ahead of the lock.
		if there || w.right(n, k) == 0 {
			return spot{n, v, p, i, there}
		}
		node.Unlock(w.a, n)
	}
	return spot{}
}

// remove takes what is left of a key out of a layer.
func (w walk) remove(root uint64, rest []byte, rec uint64) ([]uint64, bool) {
	k, _ := slice.Of(rest, 0)
	s := w.lock(root, k)
	if s.node == 0 {
		return nil, false
	}
	var lost []uint64
	there := s.there && s.place.Value == rec
	if s.there && k.Len == goesOn {
		if s.place.Tail == 0 {
			node.Unlock(w.a, s.node)
			return w.remove(s.place.Value, rest[sliceBytes:], rec)
		}
		lost = []uint64{s.place.Tail}
		there = there && bytes.Equal(node.Rest(w.a, s.place.Tail), rest[sliceBytes:])
	}
	if there {
		node.Mark(w.a, s.node, api.NodeInserting)
		node.Take(w.a, s.node, w.width, s.at)
	}
	node.Unlock(w.a, s.node)
	if !there {
		return nil, false
	}
	return lost, true
}

// insert puts what is left of a key into a layer.
func (w *writer) insert(l *layer, rest []byte, rec uint64) api.Errno {
	k, _ := slice.Of(rest, 0)
	s := w.lock(l.root, k)
	switch {
	case s.node == 0:
		return api.ErrArg
	case !s.there:
		return w.put(l, s, api.Place{Slice: k, Value: rec}, rest)
	case k.Len < goesOn:
		return w.found(s)
	case s.place.Tail == 0:
		node.Unlock(w.a, s.node)
		below := &layer{root: s.place.Value, above: l, key: k}
		return w.insert(below, rest[sliceBytes:], rec)
	}
	other := node.Rest(w.a, s.place.Tail)
	if bytes.Equal(other, rest[sliceBytes:]) {
		return w.found(s)
	}
	return w.part(s, other, rest[sliceBytes:], rec)
}

// found tells the record that is there.
func (w *writer) found(s spot) api.Errno {
	node.Unlock(w.a, s.node)
	w.laid.Record, w.laid.There = s.place.Value, true
	return api.OK
}

// fail leaves all as it was: what was taken so far nobody has found.
func (w *writer) fail(s spot) api.Errno {
	for _, piece := range w.fresh {
		w.a.Give(piece)
	}
	node.Unlock(w.a, s.node)
	return api.ErrFull
}

// own notes a piece that nobody finds yet.
func (w *writer) own(piece uint64, e api.Errno) (uint64, bool) {
	if e == api.OK && piece != 0 {
		w.fresh = append(w.fresh, piece)
	}
	return piece, e == api.OK
}

// changed notes a border that was changed, or is new.
func (w *writer) changed(n, was, is uint64) {
	w.laid.Changed = append(w.laid.Changed, api.Change{Node: n, Was: was, Is: is})
}

// put lays a new place into a border, which is locked.
func (w *writer) put(l *layer, s spot, p api.Place, rest []byte) api.Errno {
	p, ok := w.tail(p, rest)
	if !ok {
		return w.fail(s)
	}
	w.laid.Record = p.Value
	if perm.Count(w.a.Load(s.node+orderAt)) >= w.width {
		return w.split(l, s, p)
	}
	node.Mark(w.a, s.node, api.NodeInserting)
	node.Put(w.a, s.node, w.width, s.at, p)
	w.changed(s.node, s.version, node.Unlock(w.a, s.node))
	return api.OK
}

// tail gives a place its tail, if the key goes on behind it.
func (w *writer) tail(p api.Place, rest []byte) (api.Place, bool) {
	if p.Len < goesOn {
		return p, true
	}
	tail, ok := w.own(node.Tail(w.a, rest[sliceBytes:]))
	p.Tail = tail
	return p, ok
}

// part makes a layer of a place with a tail: of what is left of its key, and of a new one. All of it is made ahead of its being found.
func (w *writer) part(s spot, other, rest []byte, rec uint64) api.Errno {
	shared := slice.Shared(other, rest)
	borders, ok := w.borders(shared + 1)
	if !ok {
		return w.fail(s)
	}
	last := borders[shared]
	for _, x := range [...]struct {
		key []byte
		rec uint64
	}{{other, s.place.Value}, {rest, rec}} {
		k, _ := slice.Of(x.key, shared)
		p, ok := w.tail(api.Place{Slice: k, Value: x.rec}, x.key[sliceBytes*shared:])
		if !ok {
			return w.fail(s)
		}
		_, at, _ := node.Find(w.a, last, w.width, k)
		node.Put(w.a, last, w.width, at, p)
	}
	for i := range shared {
		k, _ := slice.Of(rest, i)
		node.Put(w.a, borders[i], w.width, 0, api.Place{Slice: k, Value: borders[i+1]})
	}
	node.Mark(w.a, s.node, api.NodeInserting)
	w.a.Store(w.field(s, tailsFields), 0)
	w.a.Store(w.field(s, valuesFields), borders[0])
	w.changed(s.node, s.version, node.Unlock(w.a, s.node))
	for _, n := range borders {
		w.changed(n, 0, node.Version(w.a, n))
	}
	w.laid.Record, w.laid.Lost = rec, []uint64{s.place.Tail}
	return api.OK
}

// borders makes so many roots of layers.
func (w *writer) borders(n int) ([]uint64, bool) {
	var l []uint64
	for range n {
		b, ok := w.own(node.Border(w.a, w.width, true))
		if !ok {
			return nil, false
		}
		l = append(l, b)
	}
	return l, true
}

// field is the cell of a field of a place that is there.
func (w walk) field(s spot, ahead int) uint64 {
	return s.node + placesAt + uint64(ahead*w.width+s.place.Slot)
}
