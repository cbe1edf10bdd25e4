package store

import (
	"garner/api"
	"garner/ckpt"
	"garner/epoch"
	"garner/log"
	"garner/logger"
	"garner/snap"
	"garner/tasks"
	"garner/txn"
)

// firstWorker is the task of the worker 0.
const firstWorker = opener + 1

// rests is how much rarer checkpoints are than epochs.
const rests = 4

// begin lets all others begin.
func (s *Store) begin() {
	for w, seat := range txn.Seats(s.job) {
		s.machine.Begin(s.work(seat, s.told[w]), s.session(seat, s.told[w]))
	}
	for l := range s.job.Loggers {
		s.machine.Begin(s.log(l, nil), s.logs(l))
	}
	s.machine.Begin(s.goOn, s.goesOn)
	s.machine.Begin(s.collect(nil), s.collects)
	s.machine.Begin(s.check(s.manifest), s.checks)
}

// work is the function of one of a worker's transactions; behind the last one nothing is left to do.
func (s *Store) work(seat api.Seat, i int) tasks.Task {
	w := seat.Worker
	if i >= len(s.sessions[w]) {
		return func(*tasks.Act) any { return nil }
	}
	t := s.sessions[w][i]
	run := txn.Run
	if t.Snapshot {
		run = snap.Run
	}
	return func(a *tasks.Act) any {
		return run(a, seat, t, func(o api.Outcome) { s.outcome(w, i, o) })
	}
}

// session is a worker's way from one transaction to the next.
func (s *Store) session(seat api.Seat, i int) tasks.Next {
	w := seat.Worker
	s.doing[w] = i
	return func(last any) (tasks.Task, bool) {
		if s.doing[w] >= len(s.sessions[w]) {
			return nil, false
		}
		if o, ok := last.(api.Outcome); ok {
			s.outcome(w, s.doing[w], o)
		}
		s.doing[w]++
		return s.work(seat, s.doing[w]), s.doing[w] < len(s.sessions[w])
	}
}

// outcome tells what became of a transaction; what was told is not told again.
func (s *Store) outcome(w, i int, o api.Outcome) {
	if s.told[w] > i {
		return
	}
	s.told[w] = i + 1
	e := api.Event{Kind: api.EventCommit, Worker: w, TID: o.TID, Txn: s.sessions[w][i], Results: o.Results}
	switch {
	case o.Errno != api.OK:
		e = api.Event{Kind: api.EventAbort, Worker: w, Txn: e.Txn, Errno: o.Errno}
	case e.Txn.Snapshot:
		e.Kind, e.TID, e.Epoch = api.EventSnapshot, api.TID{}, o.TID.Epoch
	}
	s.tell(copiedEvent(e))
}

// log is a round of a logger, which has kept something.
func (s *Store) log(l int, kept []byte) tasks.Task {
	// Where the disk has refused the manifest there is no name: the disk refuses that, too, and nothing becomes durable.
	name, _ := log.LogName(s.manifest.Generation, l)
	return func(a *tasks.Act) any {
		left := logger.Round(a, s.job, l, name, kept)
		if l == 0 {
			logger.Durable(a, s.job, s.manifest.Generation)
		}
		return left
	}
}

func (s *Store) logs(l int) tasks.Next {
	return func(last any) (tasks.Task, bool) {
		kept, _ := last.([]byte)
		return s.log(l, kept), true
	}
}

// look looks at the cell of numbers so many times.
func look(a *tasks.Act, n int) {
	for range n {
		a.Load(api.CellNumbers)
	}
}

// goOn is a round of the one that lets epochs go on.
func (s *Store) goOn(a *tasks.Act) any {
	look(a, s.job.Every)
	epoch.Advance(a, s.job.Workers)
	return epoch.Settle(a, s.job.Workers)
}

func (s *Store) goesOn(any) (tasks.Task, bool) { return s.goOn, true }

// collect is a round of the one that collects.
func (s *Store) collect(l []api.Waste) tasks.Task {
	return func(a *tasks.Act) any {
		look(a, s.job.Every)
		return snap.Collect(a, s.job, l)
	}
}

func (s *Store) collects(last any) (tasks.Task, bool) {
	l, _ := last.([]api.Waste)
	return s.collect(l), true
}

// check is a round of the one that writes checkpoints.
func (s *Store) check(m api.Manifest) tasks.Task {
	return func(a *tasks.Act) any {
		look(a, rests*s.job.Every)
		return ckpt.Round(a, s.job, s.manifest.Generation, m)
	}
}

func (s *Store) checks(last any) (tasks.Task, bool) {
	m, _ := last.(api.Manifest)
	return s.check(m), true
}
