package console

import (
	"strconv"
	"strings"

	"garner/api"
	"garner/judge"
	recovery "garner/recover"
	"garner/script"
)

// put puts a line together of what it tells: words, numbers, and bytes as words.
func put(parts ...any) string {
	var l []string
	for _, p := range parts {
		switch x := p.(type) {
		case string:
			l = append(l, x)
		case int:
			l = append(l, strconv.Itoa(x))
		case int64:
			l = append(l, strconv.FormatInt(x, 10))
		case api.Errno:
			l = append(l, strconv.Itoa(int(x)))
		case api.Flaw:
			l = append(l, strconv.Itoa(int(x)))
		case api.Pair:
			l = append(l, pair(x))
		case []byte:
			l = append(l, key(x))
		}
	}
	return strings.Join(l, blank)
}

// said is one line.
func said(parts ...any) []string { return []string{put(parts...)} }

func refused(e api.Errno) []string { return said("error", e) }

// each is what is told of each thing of a list, as parts of a line.
func each[T any](l []T, tell func(i int, x T) []any) []any {
	var all []any
	for i, x := range l {
		all = append(all, tell(i, x)...)
	}
	return all
}

// key is a key as a word: as it stands in a call's line.
func key(k []byte) string {
	line, _ := script.Line(api.Op{Kind: api.OpGet, Key: k})
	return strings.TrimPrefix(line, "get 0 ")
}

// pair is a key and a row's fields as words, likewise.
func pair(p api.Pair) string {
	line, _ := script.Line(api.Op{Kind: api.OpPut, Key: p.Key, Row: p.Row})
	return strings.TrimPrefix(line, "put 0 ")
}

// looks answers a line that is just that word, if there is a store.
func (c *Console) looks(line, word string, tell func() []string) []string {
	switch {
	case line != word:
		return refused(api.ErrBytes)
	case c.store == nil:
		return refused(api.ErrNone)
	}
	return tell()
}

// number reads a word as a number that may stand in a line.
func number(w string) (int, bool) {
	n, e := strconv.Atoi(w)
	return n, e == nil && n >= 0 && n <= api.MaxNumber && strconv.Itoa(n) == w
}

// numbered answers a line that is a word and a number, if there is a store.
func (c *Console) numbered(line string, tell func(n int) []string) []string {
	_, rest, _ := strings.Cut(line, blank)
	n, ok := number(rest)
	switch {
	case !ok:
		return refused(api.ErrBytes)
	case c.store == nil:
		return refused(api.ErrNone)
	}
	return tell(n)
}

// choose is the one word, if it is so, else the other one.
func choose(is bool, yes, no string) string {
	if is {
		return yes
	}
	return no
}

func (c *Console) at(line string) []string {
	return c.looks(line, "at", func() []string {
		at := c.store.At()
		return said(choose(at.Opening, "opening", "open"), choose(at.Stuck, "stuck", "free"), at.Generation, at.Epoch, at.Durable, at.Tasks, at.Stray)
	})
}

func (c *Console) told(line string) []string {
	return c.looks(line, "told", func() []string {
		l := each(c.store.At().Told, func(_, n int) []any { return []any{n} })
		return said(append([]any{"told"}, l...)...)
	})
}

// event is an event's line.
func event(e api.Event) string {
	switch e.Kind {
	case api.EventCommit:
		return put("commit", e.Worker, e.TID.Epoch, e.TID.Seq, len(e.Txn.Ops))
	case api.EventAbort:
		return put("abort", e.Worker, e.Errno)
	case api.EventSnapshot:
		return put("snapshot", e.Worker, e.Epoch, len(e.Txn.Ops))
	case api.EventDurable:
		return put("durable", e.Epoch)
	case api.EventCrash:
		return put("crash")
	}
	rows := each(e.Tables, func(_ int, t []api.Pair) []any { return []any{len(t)} })
	return put(append([]any{"recovered", e.Epoch}, rows...)...)
}

func (c *Console) events(line string) []string {
	return c.looks(line, "events", func() []string {
		var l []string
		for e := range c.store.Events() {
			l = append(l, event(e))
		}
		return l
	})
}

func (c *Console) results(line string) []string {
	return c.numbered(line, func(n int) []string {
		i := 0
		for e := range c.store.Events() {
			if i == n {
				return results(e.Results)
			}
			i++
		}
		return refused(api.ErrNone)
	})
}

// results are the lines of an event's results.
func results(l []api.Result) []string {
	var all []string
	for i, r := range l {
		rows := each(r.Rows, func(_ int, p api.Pair) []any { return []any{p.Key, len(p.Row)} })
		all = append(all, put(append([]any{i, r.Errno}, rows...)...))
	}
	return all
}

func (c *Console) rows(line string) []string {
	return c.numbered(line, func(n int) []string {
		if n >= len(c.job.Tables) {
			return refused(api.ErrNone)
		}
		tables, ok := c.store.Tables()
		if !ok {
			return said("locked")
		}
		var l []string
		for _, p := range tables[n] {
			l = append(l, put(p))
		}
		return l
	})
}

func (c *Console) files(line string) []string {
	return c.looks(line, "files", func() []string {
		var l []string
		d := c.store.Disk()
		for name, b := range d.All() {
			lasts, _ := d.Lasting(name)
			l = append(l, put(name, len(b), lasts))
		}
		return l
	})
}

func (c *Console) recovered(line string) []string {
	return c.looks(line, "recovered", func() []string {
		r, e := recovery.Recover(c.store.Disk(), c.job)
		if e != api.OK {
			return refused(e)
		}
		rows := each(r.Tables, func(_ int, t []api.Stored) []any { return []any{len(t)} })
		return said(append([]any{r.Generation, r.Epoch, r.Greatest, "rows"}, rows...)...)
	})
}

func (c *Console) ended(line string) []string {
	return c.looks(line, "ended", func() []string { return said(choose(c.store.Ended(), "yes", "no")) })
}

func (c *Console) sound(line string) []string {
	return c.looks(line, "sound", func() []string {
		is, asked := c.store.Sound()
		if !asked {
			return said("locked")
		}
		return said(choose(is, "yes", "no"))
	})
}

func (c *Console) judged(line string) []string {
	return c.looks(line, "judge", func() []string {
		place, flaw, e := judge.Check(c.job, c.store.Events())
		if e != api.OK {
			return said("flaw", place, flaw)
		}
		return said("goes")
	})
}
