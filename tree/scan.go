package tree

import (
	"bytes"
	"slices"

	"garner/api"
	"garner/node"
	"garner/slice"
	"garner/version"
)

// scan is a way over many keys.
type scan struct {
	walk
	seen func(s api.Seen)
	row  func(key []byte, rec uint64) bool
}

// read reads a whole border, from n on to the right: it, its version, its places, and its right neighbour.
func (s scan) read(n uint64, from api.Slice) (api.Seen, []api.Place, uint64) {
anew:
	for {
		at, v := s.still(n, from)
		n = at
		places := node.Places(s.a, n, s.width)
		next := s.a.Load(n + nextAt)
		switch {
		case next != 0 && !s.below(from, next) && s.on(next) != 0:
			n = next
			continue anew
		case version.Same(v, node.Version(s.a, n)):
			return spot{node: n, version: v}.seen(), places, s.on(next)
		}
	}
}

// layer goes over a layer's keys, from what is left of the first one on; ahead is what all of them begin with. It tells whether to go on.
func (s scan) layer(root uint64, ahead, from []byte) bool {
	if root == 0 || len(ahead) >= api.MaxEntry { // no key is so long
		return true
	}
	first, _ := slice.Of(from, 0)
	for n := s.leaf(root, first); n != 0; {
		seen, places, next := s.read(n, first)
		s.seen(seen)
		for _, p := range places {
			if !s.place(p, ahead, from, first) {
				return false
			}
		}
		n = next
	}
	return true
}

// place tells what stands at a place, unless it is below the first key.
func (s scan) place(p api.Place, ahead, from []byte, first api.Slice) bool {
	order := slice.Compare(p.Slice, first)
	if order < 0 {
		return true
	}
	var rest []byte // of the first key, behind this slice
	if order == 0 && first.Len == goesOn {
		rest = from[sliceBytes:]
	}
	b, _ := slice.Bytes(p.Slice)
	key := slices.Concat(ahead, b)
	switch {
	case p.Len < goesOn:
		return s.row(key, p.Value)
	case p.Tail == 0:
		return s.layer(p.Value, key, rest)
	}
	tail := node.Rest(s.a, p.Tail)
	return bytes.Compare(tail, rest) < 0 || s.row(append(key, tail...), p.Value)
}
