package txn

import (
	"bytes"

	"garner/api"
	"garner/catalog"
	"garner/row"
)

// calls tells how each kind of call is done.
func calls() map[api.OpKind]func(w *work, o api.Op) api.Result {
	return map[api.OpKind]func(w *work, o api.Op) api.Result{
		api.OpGet:    (*work).get,
		api.OpPut:    (*work).put,
		api.OpInsert: (*work).insertRow,
		api.OpDelete: (*work).remove,
		api.OpScan:   (*work).scanRows,
		api.OpLook:   (*work).lookUp,
	}
}

// of is a call's key in its table's tree.
func (w *work) of(o api.Op) key { return key{w.tree(o.Table, -1), string(o.Key)} }

func pair(k []byte, r api.Row) api.Pair {
	return api.Pair{Key: bytes.Clone(k), Row: row.Copy(r)}
}

func (w *work) get(o api.Op) api.Result {
	r, ok := w.find(w.of(o))
	if !ok {
		return api.Result{Errno: api.ErrNone}
	}
	return api.Result{Rows: []api.Pair{pair(o.Key, r)}}
}

func (w *work) put(o api.Op) api.Result {
	w.set(o.Table, o.Key, o.Row)
	return api.Result{}
}

// insertRow lays a new record at once where there is none: that one's word tells whether somebody else wrote it, so the border need not be noted.
func (w *work) insertRow(o api.Op) api.Result {
	k := w.of(o)
	x, ok := w.own[k]
	is := ok && x.there
	if !ok {
		h := w.place(k)
		w.note(h.record, h.word)
		if is = there(h.word); !is {
			w.lay(k, h)
		}
	}
	if is {
		return api.Result{Errno: api.ErrThere}
	}
	w.set(o.Table, o.Key, o.Row)
	return api.Result{}
}

func (w *work) remove(o api.Op) api.Result {
	k := w.of(o)
	x, ok := w.own[k]
	is := ok && x.there
	if !ok {
		h := w.asked(k)
		if is = h.record != 0 && there(h.word); is {
			w.lay(k, h)
		}
	}
	if !is {
		return api.Result{Errno: api.ErrNone}
	}
	w.set(o.Table, o.Key, nil)
	return api.Result{}
}

func (w *work) scanRows(o api.Op) api.Result {
	var l []api.Pair
	span, _ := catalog.Range(w.seat.Job, o)
	w.scan(span, func(k []byte, r api.Row) bool {
		l = append(l, pair(k, r))
		return len(l) < o.Most
	})
	return api.Result{Rows: l}
}

func (w *work) lookUp(o api.Op) api.Result {
	var l []api.Pair
	span, _ := catalog.Range(w.seat.Job, o)
	w.scan(span, func(entry []byte, _ api.Row) bool {
		field, k, _ := row.Split(entry)
		r, ok := w.find(key{w.tree(o.Table, -1), string(k)})
		if !ok || len(r) <= o.Index+1 || !bytes.Equal(r[o.Index+1], field) {
			fail(api.ErrConflict) // both were read while another one wrote them
		}
		l = append(l, pair(k, r))
		return len(l) < o.Most
	})
	return api.Result{Rows: l}
}
