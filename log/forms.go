package log

import (
	"bytes"

	"garner/api"
	"garner/row"
	"garner/wire"
)

// bad is what a payload gives up with that is no form.
type bad struct{}

// must is what was read, if it could be.
func must[T any](x T, e api.Errno) T {
	if e != api.OK {
		panic(bad{})
	}
	return x
}

// read reads a payload by what is handed in: the thing, or ErrBytes.
func read[T any](payload []byte, one func(r *wire.Reader) T) (x T, e api.Errno) {
	defer func() {
		if caught := recover(); caught != nil {
			var none T
			x, e = none, api.ErrBytes
		}
	}()
	r := wire.Open(payload)
	x = one(r)
	return x, must(api.OK, r.End())
}

// upTo reads a number that is at most so great.
func upTo(r *wire.Reader, most int64) int64 {
	n := must(r.Number())
	if n > uint64(most) {
		panic(bad{})
	}
	return int64(n)
}

// list reads a list, of which one reads each.
func list[T any](r *wire.Reader, most int, one func(r *wire.Reader) T) []T {
	return must(wire.Take(r, most, func(r *wire.Reader) (T, api.Errno) { return one(r), api.OK }))
}

// name reads a name; none is one.
func name(r *wire.Reader) string { return string(must(r.Bytes(api.MaxName))) }

// aRow reads a row's bytes.
func aRow(r *wire.Reader) api.Row { return must(row.Read(must(r.Bytes(api.MaxPayload)))) }

func tid(r *wire.Reader) api.TID {
	return api.TID{Epoch: upTo(r, api.MaxEpoch), Seq: upTo(r, api.MaxSeq)}
}

// sure is the thing, if it is whole, and may be; else ErrBytes.
func sure[T any](x T, e api.Errno, may func(T) bool) (T, api.Errno) {
	if e != api.OK || !may(x) {
		var none T
		return none, api.ErrBytes
	}
	return x, api.OK
}

// only is the payload of the one frame that b is.
func only(b []byte) []byte {
	if payload, ok := first(b); ok && len(b) == headBytes+len(payload) {
		return payload
	}
	return nil
}

func putNumber(n int64) []byte { return wire.Number(uint64(n)) }

func putRow(r api.Row) []byte {
	b, _ := row.Bytes(r)
	return wire.Bytes(b)
}

func putTID(t api.TID) []byte { return wire.Join(putNumber(t.Epoch), putNumber(t.Seq)) }

func putWrite(w api.Write) []byte {
	b := wire.Join(putNumber(int64(w.Table)), wire.Bytes(w.Key), wire.Flag(len(w.Row) > 0))
	if len(w.Row) > 0 {
		b = append(b, putRow(w.Row)...)
	}
	return b
}

// PutTxn is a logged transaction's frame.
func PutTxn(t api.Logged) ([]byte, api.Errno) {
	if !MayTxn(t) {
		return nil, api.ErrArg
	}
	writes, _ := wire.Put(t.Writes, putWrite)
	return Frame(wire.Join(putTID(t.TID), writes))
}

func write(r *wire.Reader) api.Write {
	w := api.Write{Table: int(upTo(r, api.MaxTables)), Key: must(r.Bytes(api.MaxKey))}
	if must(r.Flag()) {
		w.Row = aRow(r)
	}
	return w
}

func txn(r *wire.Reader) api.Logged {
	return api.Logged{TID: tid(r), Writes: list(r, api.MaxOps, write)}
}

// Txns are the logged transactions of a log, how many bytes they have, and whether these are all whole frames.
func Txns(b []byte) ([]api.Logged, int, bool) {
	var l []api.Logged
	n := 0
frames:
	for payload := range Frames(b) {
		t, e := read(payload, txn)
		if t, e = sure(t, e, MayTxn); e != api.OK {
			break frames
		}
		l = append(l, t)
		n += headBytes + len(payload)
	}
	return l, n, n == Whole(b)
}

// mayCheckpoint: may it be a checkpoint? How many rows it has is another question.
func mayCheckpoint(c api.Checkpoint) bool {
	ok := within(c.Epoch, 0, api.MaxEpoch) && len(c.Tables) <= api.MaxTables
	for _, l := range c.Tables {
		for i, s := range l {
			ok = ok && row.MayKey(s.Key) && row.May(s.Row) && mayTID(s.TID) && s.TID.Epoch <= c.Epoch
			ok = ok && (i == 0 || bytes.Compare(l[i-1].Key, s.Key) < 0)
		}
	}
	return ok
}

// counts is how many rows each table has, and how many all have.
func counts(c api.Checkpoint) ([]int64, int64) {
	var l []int64
	all := int64(0)
	for _, t := range c.Tables {
		l = append(l, int64(len(t)))
		all += int64(len(t))
	}
	return l, all
}

// PutCheckpoint is a checkpoint's frames.
func PutCheckpoint(c api.Checkpoint) ([]byte, api.Errno) {
	if !mayCheckpoint(c) {
		return nil, api.ErrArg
	}
	each, all := counts(c)
	if all > api.MaxRows {
		return nil, api.ErrLong
	}
	head, _ := wire.Put(each, putNumber)
	b, _ := Frame(wire.Join(putNumber(c.Epoch), head))
	for i, t := range c.Tables {
		for _, s := range t {
			frame, _ := Frame(wire.Join(putNumber(int64(i)), wire.Bytes(s.Key), putRow(s.Row), putTID(s.TID)))
			b = append(b, frame...)
		}
	}
	return b, api.OK
}

// placed is a stored row, and its table's number.
type placed struct {
	table int64
	row   api.Stored
}

func stored(r *wire.Reader) placed {
	return placed{upTo(r, api.MaxTables), api.Stored{Key: must(r.Bytes(api.MaxKey)), Row: aRow(r), TID: tid(r)}}
}

// head is what a checkpoint's first frame tells.
type head struct {
	epoch int64
	each  []int64
}

func heads(r *wire.Reader) head {
	return head{upTo(r, api.MaxEpoch), list(r, api.MaxTables, func(r *wire.Reader) int64 { return upTo(r, api.MaxRows) })}
}

// ReadCheckpoint reads them.
func ReadCheckpoint(b []byte) (api.Checkpoint, api.Errno) {
	var h head
	var rows []placed
	e := api.ErrBytes // without a first frame
	began := false
	for payload := range Frames(b) {
		if !began {
			began = true
			h, e = read(payload, heads)
			continue
		}
		p, bad := read(payload, stored)
		e = max(e, bad)
		rows = append(rows, p)
	}
	if e != api.OK || Whole(b) != len(b) {
		return api.Checkpoint{}, api.ErrBytes
	}
	c, e := h.with(rows)
	return sure(c, e, mayCheckpoint)
}

// with is the checkpoint of these rows, if they are just as many as is told, one table's behind the other's.
func (h head) with(rows []placed) (api.Checkpoint, api.Errno) {
	c := api.Checkpoint{Epoch: h.epoch}
	for i, n := range h.each {
		var l []api.Stored
		for range n {
			if len(rows) == 0 || rows[0].table != int64(i) {
				return api.Checkpoint{}, api.ErrBytes
			}
			l = append(l, rows[0].row)
			rows = rows[1:]
		}
		c.Tables = append(c.Tables, l)
	}
	if _, all := counts(c); len(rows) > 0 || all > api.MaxRows {
		return api.Checkpoint{}, api.ErrBytes
	}
	return c, api.OK
}

func putPart(l api.LogPart) []byte {
	return wire.Join(wire.Bytes([]byte(l.Name)), putNumber(l.To))
}

// PutManifest is a manifest's frame.
func PutManifest(m api.Manifest) ([]byte, api.Errno) {
	if !mayManifest(m) {
		return nil, api.ErrArg
	}
	logs, _ := wire.Put(m.Logs, putPart)
	return Frame(wire.Join(putNumber(m.Generation), wire.Bytes([]byte(m.Name)), putNumber(m.Epoch), putNumber(m.Floor), logs))
}

func part(r *wire.Reader) api.LogPart {
	return api.LogPart{Name: name(r), To: upTo(r, api.MaxEpoch)}
}

// ReadManifest reads it.
func ReadManifest(b []byte) (api.Manifest, api.Errno) {
	m, e := read(only(b), func(r *wire.Reader) api.Manifest {
		return api.Manifest{Generation: upTo(r, api.MaxNumber), Name: name(r), Epoch: upTo(r, api.MaxEpoch), Floor: upTo(r, api.MaxEpoch), Logs: list(r, api.MaxLogs, part)}
	})
	return sure(m, e, mayManifest)
}

func mayDurable(d api.Durable) bool {
	return within(d.Generation, 1, api.MaxNumber) && within(d.Epoch, 0, api.MaxEpoch)
}

// PutDurable is the frame of what is durable.
func PutDurable(d api.Durable) ([]byte, api.Errno) {
	if !mayDurable(d) {
		return nil, api.ErrArg
	}
	return Frame(wire.Join(putNumber(d.Generation), putNumber(d.Epoch)))
}

// ReadDurable reads it.
func ReadDurable(b []byte) (api.Durable, api.Errno) {
	d, e := read(only(b), func(r *wire.Reader) api.Durable {
		return api.Durable{Generation: upTo(r, api.MaxNumber), Epoch: upTo(r, api.MaxEpoch)}
	})
	return sure(d, e, mayDurable)
}
