package tree

import (
	"slices"

	"garner/api"
	"garner/node"
	"garner/perm"
	"garner/slice"
	"garner/version"
)

// path is what is above a border that is split: nodes that are locked, and new ones for them.
type path struct {
	full  []uint64 // those without room, from the border up
	top   uint64   // the first one with room
	root  bool     // there is none: the last one is a root, which gets a parent
	fresh []uint64 // a new one for each that is full, and the new root
}

// split splits a full border, which is locked, and puts a new place into one of both.
func (w *writer) split(l *layer, s spot, p api.Place) api.Errno {
	right, ok := w.own(node.Border(w.a, w.width, false))
	if !ok {
		return w.fail(s)
	}
	up := w.climb(s.node)
	node.Lock(w.a, right)
	from := w.divide(s, right, p)
	w.raise(up, l, s.node, right, from)
	w.changed(s.node, s.version, node.Unlock(w.a, s.node))
	w.changed(right, 0, node.Unlock(w.a, right))
	w.laid.Changed = append(w.laid.Changed, w.above...)
	w.open(up)
	return api.OK
}

// divide lays the upper half of a border's places into a new one: from which slice on that one's keys are.
func (w *writer) divide(s spot, right uint64, p api.Place) api.Slice {
	places := node.Places(w.a, s.node, w.width)
	keep := len(places) / 2
	upper, from := places[keep:], places[keep].Slice
	if s.at > keep {
		upper = slices.Insert(upper, s.at-keep, p)
	}
	for i, p := range upper {
		node.Put(w.a, right, w.width, i, p)
	}
	w.a.Store(right+nextAt, w.a.Load(s.node+nextAt))
	w.a.Store(right+fromAt, from.Word)
	w.a.Store(right+fromAt+1, uint64(from.Len))

	node.Mark(w.a, s.node, api.NodeSplitting)
	order, _, _ := perm.Cut(w.a.Load(s.node+orderAt), keep)
	w.a.Store(s.node+orderAt, order)
	if s.at <= keep {
		node.Put(w.a, s.node, w.width, s.at, p)
	}
	w.a.Store(s.node+nextAt, right)
	return from
}

// climb locks what is above a border, up to the first one with room, and takes the cells for new nodes; where these are wanting, nothing: the new border is found by its left neighbour alone then.
func (w *writer) climb(n uint64) path {
	var up path
	for parent := n + borderParent; ; parent = n + innerParent {
		if up.root = version.Has(node.Version(w.a, n), api.NodeRoot); up.root {
			break
		}
		if n = w.lockAt(parent); n == 0 { // nobody leads to this border, either
			w.open(up)
			return path{}
		}
		if w.a.Load(n+countAt) < uint64(w.width) {
			up.top = n
			break
		}
		up.full = append(up.full, n)
	}
	return w.furnish(up)
}

// lockAt locks the node that a cell tells as a parent; who holds that node may have told another one meanwhile.
func (w *writer) lockAt(cell uint64) uint64 {
	for {
		n := w.on(w.a.Load(cell))
		if n == 0 {
			return 0
		}
		node.Lock(w.a, n)
		if w.a.Load(cell) == n {
			return n
		}
		node.Unlock(w.a, n)
	}
}

// furnish takes the new nodes of a path: all, or none.
func (w *writer) furnish(up path) path {
	need := len(up.full)
	if up.root {
		need++
	}
	for i := range need {
		n, e := node.Inner(w.a, w.width, i == len(up.full))
		if e != api.OK {
			for _, n := range up.fresh {
				w.a.Give(n)
			}
			up.fresh = nil
			w.open(up)
			return path{}
		}
		up.fresh = append(up.fresh, n)
		// Others may find it by its children ahead of its being in its place.
		node.Lock(w.a, n)
	}
	return up
}

// open unlocks a path.
func (w *writer) open(up path) {
	for _, n := range slices.Concat(up.full, up.fresh) {
		node.Unlock(w.a, n)
	}
	if up.top != 0 {
		node.Unlock(w.a, up.top)
	}
}

// raise lets what is above lead to a new border, right of another one.
func (w *writer) raise(up path, l *layer, left, right uint64, from api.Slice) {
	parent := uint64(borderParent)
	for i, n := range up.full {
		from = w.halve(n, up.fresh[i], right, from, parent)
		left, right, parent = n, up.fresh[i], innerParent
	}
	switch {
	case up.top != 0:
		keys, children, at := w.with(up.top, right, from)
		w.a.Store(right+parent, up.top)
		node.Mark(w.a, up.top, api.NodeInserting)
		w.lay(up.top, keys, children, at)
	case up.root:
		root := up.fresh[len(up.full)]
		w.a.Store(w.childCell(root, 0), left)
		w.lay(root, []api.Slice{from}, []uint64{left, right}, 0)
		w.a.Store(left+parent, root)
		w.a.Store(right+parent, root)
		w.tell(l, root)
		w.a.Store(left, version.Root(node.Version(w.a, left), false))
	}
}

// halve splits a full inner node, with a child more: the slice that goes up. Children of the other half get that as their parent.
func (w *writer) halve(n, fresh, child uint64, from api.Slice, parent uint64) api.Slice {
	keys, children, at := w.with(n, child, from)
	half := len(keys) / 2
	w.a.Store(w.childCell(fresh, 0), children[half+1])
	w.lay(fresh, keys[half+1:], children[half+1:], 0)
	w.a.Store(child+parent, n)
	for _, c := range children[half+1:] {
		w.a.Store(c+parent, fresh)
	}
	node.Mark(w.a, n, api.NodeSplitting)
	w.lay(n, keys[:half], children[:half+1], at)
	return keys[half]
}

// with is what an inner node has, and a child more, which is behind the key at.
func (w *writer) with(n, child uint64, from api.Slice) (keys []api.Slice, children []uint64, at int) {
	children = []uint64{w.a.Load(w.childCell(n, 0))}
	for i := range int(min(w.a.Load(n+countAt), uint64(w.width))) {
		k := w.key(n, i)
		if slice.Compare(k, from) < 0 {
			at = i + 1
		}
		keys = append(keys, k)
		children = append(children, w.a.Load(w.childCell(n, i+1)))
	}
	return slices.Insert(keys, at, from), slices.Insert(children, at+1, child), at
}

// key is an inner node's key.
func (w walk) key(n uint64, i int) api.Slice {
	cell := n + keysAt + uint64(i)
	return api.Slice{Word: w.a.Load(cell), Len: int(w.a.Load(cell + uint64(w.width)))}
}

// lay gives an inner node these keys, and the children behind them, from one on; the first child stays. (Children go ahead of their keys: so nobody is ever led to the right of where he must go.)
func (w *writer) lay(n uint64, keys []api.Slice, children []uint64, at int) {
	for i := at; i < len(keys); i++ {
		cell := n + keysAt + uint64(i)
		w.a.Store(w.childCell(n, i+1), children[i+1])
		w.a.Store(cell, keys[i].Word)
		w.a.Store(cell+uint64(w.width), uint64(keys[i].Len))
	}
	w.a.Store(n+countAt, uint64(len(keys)))
}

// tell lays a layer's new root where its root stands. (Nodes are locked from the leaf up, of a layer ahead of the one above.)
func (w *writer) tell(l *layer, root uint64) {
	if l.above == nil {
		w.a.Store(l.cell, root)
		return
	}
	s := w.lock(l.above.root, l.key)
	if !s.there {
		return
	}
	node.Mark(w.a, s.node, api.NodeInserting)
	w.a.Store(w.field(s, valuesFields), root)
	w.above = append(w.above, api.Change{Node: s.node, Was: s.version, Is: node.Unlock(w.a, s.node)})
}
