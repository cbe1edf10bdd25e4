package script

import (
	"strings"

	"garner/api"
	"garner/catalog"
)

// Unline reads a call's line.
func Unline(s string) (api.Op, api.Errno) {
	next := words(s)
	first, _ := next()
	var o api.Op
	for k := api.OpGet; k <= api.OpLook; k++ {
		if name(k) == first {
			o.Kind = k
		}
	}
	ok := o.Kind != 0
	set := func(n *int) {
		x, is := readNumber(next)
		*n, ok = x, ok && is
	}
	take := func(b *[]byte) {
		x, is := readBytes(next)
		*b, ok = x, ok && is
	}
	set(&o.Table)
	switch o.Kind {
	case api.OpLook:
		set(&o.Index)
		fallthrough
	case api.OpScan:
		take(&o.Key)
		take(&o.To)
		set(&o.Most)
	case api.OpPut, api.OpInsert:
		take(&o.Key)
		for field, is := readBytes(next); is && len(o.Row) <= api.MaxFields; field, is = readBytes(next) {
			o.Row = append(o.Row, field)
		}
	default:
		take(&o.Key)
	}
	// What is read must be what is written of it: that rules out every other form.
	if is, e := Line(o); !ok || e != api.OK || is != s {
		return api.Op{}, api.ErrBytes
	}
	return o, api.OK
}

// Unact reads a line of acts.
func Unact(s string) ([]api.Act, api.Errno) {
	next := words(s)
	var l []api.Act
	switch first, _ := next(); first {
	case pickWord:
		for n, ok := readNumber(next); ok && len(l) <= api.MaxGroup; n, ok = readNumber(next) {
			l = append(l, api.Act{Kind: api.ActPick, N: n})
		}
	case crashWord:
		a := api.Act{Kind: api.ActCrash}
		for w, ok := next(); ok && len(a.Keep) <= api.MaxFiles; w, ok = next() {
			n, _ := readNumber(next)
			a.Keep = append(a.Keep, api.Kept{Name: w, Loose: n})
		}
		l = append(l, a)
	}
	if len(l) == 0 {
		return nil, api.ErrBytes
	}
	for _, a := range l {
		if !MayAct(a) {
			return nil, api.ErrBytes
		}
	}
	if group(l) != len(l) || actLine(l) != s {
		return nil, api.ErrBytes
	}
	return l, api.OK
}

// reading is a text that is being read.
type reading struct {
	script api.Script
	began  bool // the job's line is there
	short  bool // the last line was one of fewer picks than a group has
	lines  map[string]func(line string) bool
}

// A kind of line.
const (
	aJob = iota
	aTable
	aWorker
	aTxn
	aCall
	anAct
)

// kinds tells what lines mean, by their first words: each reads its line, and says whether it is right.
func (r *reading) kinds() map[string]func(line string) bool {
	txn := func(t api.Txn) func(line string) bool {
		return func(line string) bool { return r.txn(line, t) }
	}
	l := map[string]func(line string) bool{
		jobWord:      r.job,
		tableWord:    r.table,
		workerWord:   r.worker,
		txnWord:      txn(api.Txn{}),
		snapshotWord: txn(api.Txn{Snapshot: true}),
		abortWord:    txn(api.Txn{Abort: true}),
		pickWord:     r.acts,
		crashWord:    r.acts,
	}
	for k := api.OpGet; k <= api.OpLook; k++ {
		l[name(k)] = r.call
	}
	return l
}

// stands: may a line of that kind stand here?
func (r *reading) stands(kind int) bool {
	s := &r.script
	switch kind {
	case aCall:
		if len(s.Sessions) == 0 || len(s.Sessions[len(s.Sessions)-1]) == 0 {
			return false
		}
		fallthrough
	case aTxn:
		if len(s.Sessions) == 0 {
			return false
		}
		fallthrough
	case aWorker:
		return len(s.Job.Tables) > 0 && len(s.Acts) == 0
	case anAct:
		return r.began && len(s.Sessions) == s.Job.Workers
	case aTable:
		return r.began && len(s.Sessions) == 0
	}
	return !r.began
}

func (r *reading) job(line string) bool {
	next := words(line)
	next()
	j := &r.script.Job
	ok := r.stands(aJob)
	for _, n := range [...]*int{&j.Workers, &j.Loggers, &j.Width, &j.Cells, &j.Disk, &j.Every} {
		x, is := readNumber(next)
		*n, ok = x, ok && is
	}
	some := *j
	some.Tables = []int{0}
	r.began = ok && jobLine(*j) == line && catalog.Check(some) == api.OK
	return r.began
}

func (r *reading) table(line string) bool {
	next := words(line)
	next()
	n, ok := readNumber(next)
	if !ok || !r.stands(aTable) || join(tableWord, number(n)) != line {
		return false
	}
	r.script.Job.Tables = append(r.script.Job.Tables, n)
	return catalog.Check(r.script.Job) == api.OK
}

func (r *reading) worker(line string) bool {
	if line != workerWord || !r.stands(aWorker) || len(r.script.Sessions) == r.script.Job.Workers {
		return false
	}
	r.script.Sessions = append(r.script.Sessions, nil)
	return true
}

func (r *reading) txn(line string, t api.Txn) bool {
	if line != txnWordOf(t) || !r.stands(aTxn) {
		return false
	}
	session := &r.script.Sessions[len(r.script.Sessions)-1]
	*session = append(*session, t)
	return len(*session) <= api.MaxTxns
}

func (r *reading) call(line string) bool {
	o, e := Unline(line)
	if e != api.OK || !r.stands(aCall) {
		return false
	}
	session := r.script.Sessions[len(r.script.Sessions)-1]
	t := &session[len(session)-1]
	t.Ops = append(t.Ops, o)
	return catalog.MayTxn(r.script.Job, *t)
}

func (r *reading) acts(line string) bool {
	l, e := Unact(line)
	if e != api.OK || !r.stands(anAct) {
		return false
	}
	picks := l[0].Kind == api.ActPick
	if picks && r.short || len(r.script.Acts)+len(l) > api.MaxPicks {
		return false
	}
	r.short = picks && len(l) < api.MaxGroup
	r.script.Acts = append(r.script.Acts, l...)
	return true
}

// whole: is nothing wanting?
func (r *reading) whole() bool {
	return r.began && len(r.script.Job.Tables) > 0 && len(r.script.Sessions) == r.script.Job.Workers
}

// Parse reads a script's text.
func Parse(text string) (api.Script, int, api.Errno) {
	if len(text) > api.MaxScript {
		return api.Script{}, 0, api.ErrLong
	}
	r := &reading{}
	r.lines = r.kinds()
	n := 0
lines:
	for left := text; ; n++ {
		if left == "" {
			if r.whole() {
				return r.script, 0, api.OK
			}
			break lines
		}
		line, rest, ended := strings.Cut(left, lineEnd)
		first, _ := words(line)()
		read, ok := r.lines[first]
		if !ended || !ok || !read(line) {
			break lines
		}
		left = rest
	}
	return api.Script{}, n, api.ErrBytes
}
