package tree

import (
	"slices"

	"garner/api"
	"garner/node"
	"garner/slice"
	"garner/tasks"
	"garner/version"
)

// check is a look at a whole tree.
type check struct {
	walk
	keys    [][]byte
	records []uint64
	sound   bool
}

// Check checks a tree.
func Check(a *tasks.Act, cell uint64, width int) (int, bool) {
	if !mayWidth(width) {
		return 0, false
	}
	c := &check{walk: newWalk(a, width), sound: true}
	root := a.Load(cell)
	c.layer(root, nil)
	// A border that is locked or marked is told already: to look for keys then might not end.
	for i := 0; c.sound && i < len(c.keys); i++ {
		rec, _ := newWalk(a, width).get(root, c.keys[i])
		c.must(rec == c.records[i])
	}
	return len(c.keys), c.sound
}

func (c *check) must(is bool) { c.sound = c.sound && is }

// layer looks at a layer, all of whose keys begin with what is ahead.
func (c *check) layer(root uint64, ahead []byte) {
	v := node.Version(c.a, root)
	if root == 0 || !version.Has(v, api.NodeRoot) || len(ahead) >= sliceBytes*mostLayers {
		c.sound = false
		return
	}
	last := api.Slice{Len: -1}
	for n := c.leftmost(root); c.sound && n != 0; n = c.a.Load(n + nextAt) {
		from := api.Slice{Word: c.a.Load(n + fromAt), Len: int(c.a.Load(n + fromAt + 1))}
		v := node.Version(c.a, n)
		c.must(version.Has(v, api.NodeBorder) && version.Still(v) && !version.Has(v, api.NodeLocked))
		// It must not be the last key ahead of it: so all of this ends.
		c.must(slice.Compare(last, from) < 0)
		last = from
		for i, p := range node.Places(c.a, n, c.width) {
			order := slice.Compare(last, p.Slice)
			c.must(slice.May(p.Slice) && (order < 0 || i == 0 && order == 0))
			last = p.Slice
			c.place(p, ahead)
		}
	}
}

// place looks at what stands at a place.
func (c *check) place(p api.Place, ahead []byte) {
	b, _ := slice.Bytes(p.Slice)
	key := slices.Concat(ahead, b)
	if p.Len == goesOn {
		if p.Tail == 0 {
			c.layer(p.Value, key)
			return
		}
		key = append(key, node.Rest(c.a, p.Tail)...)
	}
	c.must(p.Value != 0)
	c.keys = append(c.keys, key)
	c.records = append(c.records, p.Value)
}

// leftmost goes down by first children, and looks at the inner nodes on that way.
func (c *check) leftmost(n uint64) uint64 {
	for depth := 0; c.sound && !version.Has(node.Version(c.a, n), api.NodeBorder); depth++ {
		count := c.a.Load(n + countAt)
		c.must(count >= 1 && count <= uint64(c.width) && depth < api.MaxCells)
		first := c.a.Load(c.childCell(n, 0))
		for i := 0; c.sound && i <= int(count); i++ {
			c.must(i < 2 || slice.Compare(c.key(n, i-2), c.key(n, i-1)) < 0)
			c.must(c.parent(c.a.Load(c.childCell(n, i))) == n)
		}
		n = first
	}
	return n
}

// parent is what a node tells as its parent.
func (c *check) parent(n uint64) uint64 {
	if version.Has(node.Version(c.a, n), api.NodeBorder) {
		return c.a.Load(n + borderParent)
	}
	return c.a.Load(n + innerParent)
}
