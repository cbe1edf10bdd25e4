package judge

import (
	"bytes"
	"slices"

	"garner/api"
	"garner/catalog"
	"garner/model"
	"garner/row"
)

// must gives up, unless it is so.
func must(is bool, flaw api.Flaw, place int) {
	if !is {
		panic(flawed{flaw, place})
	}
}

// asks tells what is asked of each kind of event.
func asks() map[api.EventKind]func(g *Judge, e api.Event) {
	return map[api.EventKind]func(g *Judge, e api.Event){
		api.EventCommit:    (*Judge).askCommit,
		api.EventAbort:     (*Judge).askAbort,
		api.EventSnapshot:  (*Judge).askSnapshot,
		api.EventDurable:   (*Judge).askDurable,
		api.EventCrash:     (*Judge).askCrash,
		api.EventRecovered: (*Judge).askRecovered,
	}
}

// ask gives up, if an event is flawed.
func (g *Judge) ask(e api.Event) {
	asked, ok := asks()[e.Kind]
	must(ok, api.FlawForm, g.events)
	asked(g, e)
}

// form: does an event name just what it names, and may that be? What is left of it is asked for by the caller, who has taken away what the kind names.
func (g *Judge) form(left api.Event, may bool) {
	bare := left.Worker == 0 && left.TID == api.TID{} && left.Epoch == 0 && left.Errno == 0 && len(left.Results) == 0 && len(left.Tables) == 0
	bare = bare && len(left.Txn.Ops) == 0 && !left.Txn.Snapshot && !left.Txn.Abort
	must(bare && may, api.FlawForm, g.events)
	must(g.crashed == (left.Kind == api.EventRecovered), api.FlawPlace, g.events)
}

func within(n, least, most int64) bool { return n >= least && n <= most }

// mayTxn: may a worker's transaction be told, that is or is not a snapshot's?
func (g *Judge) mayTxn(e api.Event, snapshot bool) bool {
	return within(int64(e.Worker), 0, int64(g.job.Workers)-1) && catalog.MayTxn(g.job, e.Txn) && e.Txn.Snapshot == snapshot
}

func (g *Judge) askCommit(e api.Event) {
	left := e
	left.Worker, left.TID, left.Txn, left.Results = 0, api.TID{}, api.Txn{}, nil
	mayTID := within(e.TID.Epoch, 1, api.MaxEpoch) && within(e.TID.Seq, 1, api.MaxSeq)
	g.form(left, g.mayTxn(e, false) && !e.Txn.Abort && mayTID && len(e.Results) == len(e.Txn.Ops))
	last, ok := g.now.last[e.Worker]
	rises := g.now.given[e.TID] == 0 && (!ok || order(last, e.TID) < 0)
	must(rises && e.TID.Epoch > g.now.epoch && e.TID.Epoch > g.now.durable, api.FlawOrder, g.events)
}

func (g *Judge) askAbort(e api.Event) {
	left := e
	left.Worker, left.Txn, left.Errno = 0, api.Txn{}, 0
	said := slices.Contains([]api.Errno{api.ErrAbort, api.ErrConflict, api.ErrLong, api.ErrFull}, e.Errno)
	g.form(left, g.mayTxn(e, false) && said)
}

func (g *Judge) askSnapshot(e api.Event) {
	left := e
	left.Worker, left.Epoch, left.Txn, left.Results = 0, 0, api.Txn{}, nil
	g.form(left, g.mayTxn(e, true) && within(e.Epoch, 0, api.MaxEpoch) && len(e.Results) == len(e.Txn.Ops))
	must(e.Epoch >= g.now.read[e.Worker] && e.Epoch >= g.now.epoch, api.FlawOrder, g.events)
}

func (g *Judge) askDurable(e api.Event) {
	left := e
	left.Epoch = 0
	g.form(left, within(e.Epoch, 0, api.MaxEpoch))
	must(e.Epoch > g.now.durable && e.Epoch > g.now.epoch, api.FlawDurable, g.events)
}

func (g *Judge) askCrash(e api.Event) {
	g.form(e, true)
}

// mayTables: may these be the job's tables?
func (g *Judge) mayTables(l [][]api.Pair) bool {
	ok := len(l) == len(g.job.Tables)
	for _, t := range l {
		for i, p := range t {
			ok = ok && row.MayKey(p.Key) && row.May(p.Row) && (i == 0 || bytes.Compare(t[i-1].Key, p.Key) < 0)
		}
	}
	return ok
}

func (g *Judge) askRecovered(e api.Event) {
	left := e
	left.Epoch, left.Tables = 0, nil
	g.form(left, within(e.Epoch, 0, api.MaxEpoch) && g.mayTables(e.Tables))
	must(e.Epoch >= g.now.durable && e.Epoch >= g.now.epoch, api.FlawLost, g.events)
	is := g.now.hold(e.Epoch).Tables()
	must(slices.EqualFunc(is, e.Tables, model.SamePairs), api.FlawTables, g.events)
}

// counted are the commits of epochs up to one, by rising numbers.
func (n *generation) counted(upTo int64) []told {
	l := slices.DeleteFunc(slices.Clone(n.commits), func(x told) bool { return x.event.TID.Epoch > upTo })
	slices.SortFunc(l, func(a, b told) int { return order(a.event.TID, b.event.TID) })
	return l
}

// hold holds what counts against the model, and gives up where it is answered otherwise: the tables behind it.
func (n *generation) hold(upTo int64) *model.Model {
	l := n.counted(upTo)
	m := n.base.Copy()
	for _, x := range l {
		results, _ := m.Do(x.event.Txn)
		must(model.SameResults(results, x.event.Results), api.FlawResults, x.place)
	}
	n.holdReads(l, upTo)
	return m
}

// holdReads does the same with readers of snapshots, each behind the commits of epochs up to its own.
func (n *generation) holdReads(commits []told, upTo int64) {
	reads := slices.DeleteFunc(slices.Clone(n.snapshots), func(x told) bool { return x.event.Epoch > upTo })
	slices.SortFunc(reads, func(a, b told) int { return int(a.event.Epoch - b.event.Epoch) })
	m := n.base.Copy()
	first := -1
search:
	for _, x := range reads {
		for len(commits) > 0 && commits[0].event.TID.Epoch <= x.event.Epoch {
			m.Do(commits[0].event.Txn)
			commits = commits[1:]
		}
		if first >= 0 && first < x.place {
			continue search
		}
		if results, _ := m.Try(x.event.Txn); !model.SameResults(results, x.event.Results) {
			first = x.place
		}
	}
	must(first < 0, api.FlawReads, first)
}
