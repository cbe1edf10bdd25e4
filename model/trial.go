package model

import (
	"bytes"
	"maps"
	"slices"

	"garner/api"
	"garner/catalog"
	"garner/row"
)

// trial is a transaction that is being done: what it wrote lies over the model's tables.
type trial struct {
	m       *Model
	written []map[string]int // of each table: which write is a key's
	writes  []api.Write
	results []api.Result
	get     func(table int, key string) (api.Row, bool)
}

func newTrial(m *Model) *trial {
	x := &trial{m: m}
	for range m.tables {
		x.written = append(x.written, map[string]int{})
	}
	x.get = func(table int, key string) (api.Row, bool) {
		if i, ok := x.written[table][key]; ok {
			r := x.writes[i].Row
			return r, len(r) > 0
		}
		r, ok := m.tables[table][key]
		return r, ok
	}
	return x
}

// calls tells what each kind of call does.
func calls() map[api.OpKind]func(x *trial, o api.Op) api.Result {
	return map[api.OpKind]func(x *trial, o api.Op) api.Result{
		api.OpGet:    (*trial).read,
		api.OpPut:    (*trial).put,
		api.OpInsert: (*trial).insert,
		api.OpDelete: (*trial).remove,
		api.OpScan:   (*trial).scan,
		api.OpLook:   (*trial).look,
	}
}

// set lays a key's row, or none, over what there is.
func (x *trial) set(table int, key []byte, r api.Row) {
	i, ok := x.written[table][string(key)]
	if !ok {
		i = len(x.writes)
		x.written[table][string(key)] = i
		x.writes = append(x.writes, api.Write{Table: table, Key: bytes.Clone(key)})
	}
	x.writes[i].Row = row.Copy(r)
}

func (x *trial) read(o api.Op) api.Result {
	r, ok := x.get(o.Table, string(o.Key))
	if !ok {
		return api.Result{Errno: api.ErrNone}
	}
	return api.Result{Rows: []api.Pair{pair(string(o.Key), r)}}
}

func (x *trial) put(o api.Op) api.Result {
	x.set(o.Table, o.Key, o.Row)
	return api.Result{}
}

func (x *trial) insert(o api.Op) api.Result {
	if _, ok := x.get(o.Table, string(o.Key)); ok {
		return api.Result{Errno: api.ErrThere}
	}
	return x.put(o)
}

func (x *trial) remove(o api.Op) api.Result {
	if _, ok := x.get(o.Table, string(o.Key)); !ok {
		return api.Result{Errno: api.ErrNone}
	}
	x.set(o.Table, o.Key, nil)
	return api.Result{}
}

// pairs are a table's keys and rows, rising.
func (x *trial) pairs(table int) []api.Pair {
	keys := slices.AppendSeq(slices.Collect(maps.Keys(x.m.tables[table])), maps.Keys(x.written[table]))
	slices.Sort(keys)
	var l []api.Pair
	for _, key := range slices.Compact(keys) {
		if r, ok := x.get(table, key); ok {
			l = append(l, pair(key, r))
		}
	}
	return l
}

// entry is an entry of an index, and whose it is.
type entry struct {
	key  []byte
	pair api.Pair
}

// entries are an index's, rising.
func (x *trial) entries(table, tree int) []entry {
	var l []entry
	for _, p := range x.pairs(table) {
		all, _ := catalog.Entries(x.m.job, table, p.Key, p.Row)
		for _, e := range all {
			if e.Tree == tree {
				l = append(l, entry{e.Key, p})
			}
		}
	}
	slices.SortFunc(l, func(a, b entry) int { return bytes.Compare(a.key, b.key) })
	return l
}

// within are those of rising entries that a call's range has, at most as many as it asks for.
func within(span api.Range, most int, l []entry) []api.Pair {
	var rows []api.Pair
scan:
	for _, e := range l {
		switch {
		case bytes.Compare(e.key, span.From) < 0:
			continue scan
		case span.End && bytes.Compare(e.key, span.To) >= 0, len(rows) == most:
			break scan
		}
		rows = append(rows, e.pair)
	}
	return rows
}

func (x *trial) scan(o api.Op) api.Result {
	span, _ := catalog.Range(x.m.job, o)
	var l []entry
	for _, p := range x.pairs(o.Table) {
		l = append(l, entry{p.Key, p})
	}
	return api.Result{Rows: within(span, o.Most, l)}
}

func (x *trial) look(o api.Op) api.Result {
	span, _ := catalog.Range(x.m.job, o)
	return api.Result{Rows: within(span, o.Most, x.entries(o.Table, span.Tree))}
}
