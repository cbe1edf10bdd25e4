package store

import (
	"slices"

	"garner/api"
	"garner/catalog"
	"garner/record"
	"garner/tasks"
	"garner/tid"
	"garner/tree"
)

// found is a record that is not absent.
type found struct {
	key []byte
	row api.Row
}

// asks does a function at once over what stands in the cells: was it done? It is left, where it would wait: at a border that is marked, a record that is locked.
func (s *Store) asks(f func(a *tasks.Act)) bool {
	if s.none() || s.opens || s.stuck {
		return false
	}
	_, ok := s.machine.Alone(func(a *tasks.Act) any {
		f(a)
		return nil
	})
	return ok
}

// scan reads all of a tree, and whether one of its borders is locked.
func (s *Store) scan(a *tasks.Act, n int) ([]found, bool) {
	var l []found
	locked := false
	seen := func(x api.Seen) { locked = locked || a.Load(x.Node)&api.NodeLocked != 0 }
	tree.Scan(a, api.CellRoot+uint64(n), s.job.Width, nil, seen, func(key []byte, rec uint64) bool {
		if word, r := record.Read(a, rec); !tid.Absent(word) && !tid.Dead(word) {
			l = append(l, found{key, r})
		}
		return true
	})
	return l, locked
}

// Tables are all tables, as they are now.
func (s *Store) Tables() ([][]api.Pair, bool) {
	var all [][]api.Pair
	ok := s.asks(func(a *tasks.Act) {
		all = make([][]api.Pair, len(s.job.Tables))
		for n, what := range catalog.All(s.job) {
			if what.Index >= 0 {
				continue
			}
			l, _ := s.scan(a, n)
			for _, x := range l {
				all[what.Table] = append(all[what.Table], api.Pair{Key: x.key, Row: x.row})
			}
		}
	})
	if !ok {
		return nil, false
	}
	return all, true
}

// Sound: is all as it should be, and could that be asked?
func (s *Store) Sound() (bool, bool) {
	is, calm := true, true
	ok := s.asks(func(a *tasks.Act) {
		var have, want []string
		for n, what := range catalog.All(s.job) {
			l, locked := s.scan(a, n)
			calm = calm && !locked
			for _, f := range l {
				if what.Index >= 0 {
					have = append(have, entry(n, f.key))
					continue
				}
				entries, _ := catalog.Entries(s.job, what.Table, f.key, f.row)
				for _, e := range entries {
					want = append(want, entry(e.Tree, e.Key))
				}
			}
		}
		slices.Sort(have)
		slices.Sort(want)
		is = slices.Equal(have, want)
		for n := range catalog.All(s.job) {
			_, sound := tree.Check(a, api.CellRoot+uint64(n), s.job.Width)
			is = is && sound
		}
	})
	if !ok || !calm {
		return false, false
	}
	return is, true
}

// entry is an entry with its tree's number, to be compared.
func entry(tree int, key []byte) string { return string(byte(tree)) + string(key) }
