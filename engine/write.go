package engine

import (
	"slices"
	"strings"

	"cenotaph/api"
	"cenotaph/frame"
	"cenotaph/mem"
	"cenotaph/state"
	"cenotaph/table"
	"cenotaph/verse"
)

// part is a content that is to be a table.
type part struct {
	of       state.Content
	repaired bool
}

// together is how many parts a version has at most that the one ahead of it hasn't.
const together = 2

// turn: a version takes the place of the one that is, with tables of parts beside those that it names, and, if that is asked for, with an empty log. With an error all is as it was; files that the power left of it are waste.
func (e *Engine) turn(v verse.Version, emptied bool, parts ...part) api.Errno {
	if why := e.clean(); why != api.OK { // new files may have the names of those that the power left
		return why
	}
	to := *e
	to.v, to.tabs = v, map[int]*table.Table{}
	for _, t := range v.Tabs {
		to.tabs[t.ID] = e.tabs[t.ID]
	}
	if why := to.write(emptied, parts); why != api.OK {
		if down := e.clean(); down != api.OK {
			return down
		}
		return why
	}
	if why := to.clean(); why != api.OK {
		return why
	}
	*e = to
	return api.OK
}

// write writes what a version lacks, and then the version itself: from there on that one counts.
func (e *Engine) write(emptied bool, parts []part) api.Errno {
	e.v.Tabs = slices.Clone(e.v.Tabs) // they are those of the version ahead, which stays if this fails
	for _, p := range parts {
		if why := e.store(p); why != api.OK {
			return why
		}
	}
	if emptied {
		e.v.Next++ // another number: the old log's file is there till this version counts
		e.v.Log, e.log, e.recs, e.torn = e.v.Next, &mem.Tree{}, 0, false
	}
	return e.commit()
}

// store: a part is a table more; of nothing there is none.
func (e *Engine) store(p part) api.Errno {
	if len(row(p.of)) == 0 {
		return api.OK
	}
	b := table.Put(p.of)
	t, why := table.Open(b)
	if why != api.OK {
		return api.ErrFull // a table doesn't take any number of wipes
	}
	e.v.Next++
	e.v.Tabs = append(e.v.Tabs, verse.Tab{ID: e.v.Next, Repaired: p.repaired})
	e.tabs[e.v.Next] = t
	return e.keep(verse.Table(e.pre, e.v.Next), b)
}

// commit: the version counts. Behind a part of a record it would never be read: then, and where the file of versions is great, another one takes its place.
func (e *Engine) commit() api.Errno {
	if !verse.Right(e.v) {
		return api.ErrFull // there are no more numbers
	}
	rec := record(verse.Put(e.v))
	base, fresh := verse.Base(e.pre), verse.Fresh(e.pre)
	if len(rec) <= e.left {
		e.left -= len(rec)
		return e.keep(base, rec)
	}
	e.left = BaseMost - len(rec)
	if why := e.keep(fresh, rec); why != api.OK {
		return why
	}
	return e.d.Rename(fresh, base)
}

// record: bytes as a record.
func record(b []byte) []byte { return frame.Put(nil, b) }

// keep: bytes stay at a file's end.
func (e *Engine) keep(name string, b []byte) api.Errno {
	if why := e.d.Append(name, b); why != api.OK {
		return why
	}
	return e.d.Sync(name)
}

// clean deletes all waste.
func (e *Engine) clean() api.Errno {
	for _, name := range e.waste() {
		if why := e.d.Delete(name); why != api.OK {
			return why
		}
	}
	return api.OK
}

// waste: the files of the engine's word that its version doesn't need.
func (e *Engine) waste() []string {
	needed := append(e.v.Files(e.pre), verse.Base(e.pre))
	var l []string
	for name := range e.d.Names() {
		if strings.HasPrefix(name, e.pre+"-") && !slices.Contains(needed, name) {
			l = append(l, name)
		}
	}
	return l
}
