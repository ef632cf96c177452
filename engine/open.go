package engine

import (
	"strconv"
	"strings"

	"cenotaph/api"
	"cenotaph/disk"
	"cenotaph/frame"
	"cenotaph/mem"
	"cenotaph/mut"
	"cenotaph/table"
	"cenotaph/verse"
	"cenotaph/wire"
)

// wordMost is how many bytes a word has at most.
const wordMost = 8

// Open: the engine whose files begin with a word, as they are; a new one, if there are none. ErrText, if that word and what follows are no names; ErrDown; ErrForm, if files are no engine's.
func Open(d *disk.Disk, pre string) (*Engine, api.Errno) {
	switch {
	case d == nil || d.Off():
		return nil, api.ErrDown
	case !word(pre):
		return nil, api.ErrText
	}
	e := &Engine{d: d, pre: pre, tabs: map[int]*table.Table{}, log: &mem.Tree{}}
	for _, read := range []func() bool{e.readBase, e.readTables, e.readLog, e.readWaste} {
		if !read() {
			return nil, api.ErrForm
		}
	}
	e.clean() // if the power goes meanwhile, it is done ahead of the next files
	return e, api.OK
}

// word: may files' names begin with it?
func word(s string) bool {
	for i, r := range s {
		letter, digit := 'a' <= r && r <= 'z', '0' <= r && r <= '9'
		if !letter && (!digit || i == 0) {
			return false
		}
	}
	return s != "" && len(s) <= wordMost
}

// readBase: the last version that is there wholly; false: none is, though there is a file of them.
func (e *Engine) readBase() bool {
	b, why := e.d.Read(verse.Base(e.pre))
	if why != api.OK {
		return true // it is a new engine
	}
	l, torn, ok := records(b, verse.Get)
	if !ok || len(l) == 0 {
		return false
	}
	e.v = l[len(l)-1]
	if !torn {
		e.left = BaseMost - len(b)
	}
	return true
}

// readTables: those of the version; false: one of them is none.
func (e *Engine) readTables() bool {
	for _, t := range e.v.Tabs {
		b, _ := e.d.Read(verse.Table(e.pre, t.ID)) // of a file that isn't there no bytes, which are no table's
		tab, why := table.Open(b)
		if why != api.OK {
			return false
		}
		e.tabs[t.ID] = tab
	}
	return true
}

// readLog: the mutations of the version's log, whose file may not be there yet; false: it has something else.
func (e *Engine) readLog() bool {
	b, _ := e.d.Read(verse.Log(e.pre, e.v.Log))
	l, torn, ok := records(b, mutation)
	for _, m := range l {
		e.log.Put(m)
	}
	e.recs, e.torn = len(l), torn
	return ok
}

// readWaste: is all that the version doesn't need what the power leaves of a call?
func (e *Engine) readWaste() bool {
	for _, name := range e.waste() {
		if !e.leaves(name) {
			return false
		}
	}
	return true
}

// leaves: may the power leave a file of a call: a new file of versions, a log that the version ahead had, a table of that one, or of the one that was to come?
func (e *Engine) leaves(name string) bool {
	b, _ := e.d.Read(name)
	n, _ := strconv.Atoi(name[strings.LastIndexByte(name, '-')+1:]) // of what is no number the file has no name that is looked for
	switch name {
	case verse.Fresh(e.pre):
		_, _, ok := records(b, verse.Get)
		return ok
	case verse.Log(e.pre, n):
		_, _, ok := records(b, mutation)
		return ok && n < e.v.Log
	case verse.Table(e.pre, n):
		_, why := table.Open(b)
		return (why == api.OK || why == api.ErrShort) && 0 < n && n <= e.v.Next+together
	}
	return false
}

// mutation: that of a record.
func mutation(rec []byte) (api.Mut, api.Errno) {
	r := wire.New(rec)
	m := mut.Get(r)
	return m, r.End()
}

// records: what the records of a file say; torn: behind them there is a part of one; false: one of them says nothing, or what is behind them is no such part.
func records[T any](b []byte, get func(rec []byte) (T, api.Errno)) (l []T, torn, ok bool) {
	for rec := range frame.All(b) {
		x, why := get(rec)
		if why != api.OK {
			return nil, false, false
		}
		l = append(l, x)
	}
	rest := b[frame.Whole(b):]
	r := wire.New(rest)
	r.Count(frame.Most)
	why := r.Why()
	if why == api.OK { // how many bytes the record has is there: only these aren't
		_, why = get(rest[r.At():])
	}
	return l, len(rest) > 0, why == api.ErrShort
}
