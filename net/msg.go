package net

import (
	"cenotaph/api"
	"cenotaph/conf"
	"cenotaph/mut"
	"cenotaph/state"
)

// Body is what a message says: its word.
type Body interface{ Says() string }

// Write: a mutation, of an operation of the sender's (0: of none).
type Write struct {
	Op int
	M  api.Mut
}

// Ack: a mutation stays there; or why it doesn't, and the fence.
type Ack struct {
	Op    int
	At    api.Stamp
	Why   api.Errno
	Fence api.Stamp
}

// Ask: what is there from a key up to ahead of another one.
type Ask struct {
	Op, Range int
	From, To  string
}

// Answer: it, and the floor; the number of the answer, that no other one of the sender has; or why it isn't told.
type Answer struct {
	Op, Range int
	No        int
	C         state.Content
	Floor     api.Stamp
	Why       api.Errno
}

// Prepare: nothing up to a seal comes any more.
type Prepare struct {
	Range int
	Seal  api.Stamp
}

// Report: what there is up to the seal, the floor, whether it is in quarantine; or why it can't be, and the fence.
type Report struct {
	Range       int
	Seal, Floor api.Stamp
	Fence       api.Stamp
	C           state.Content
	Quar        bool
	Why         api.Errno
}

// Install: that is all that there is up to the seal; a floor that it was made with.
type Install struct {
	Range      int
	Seal, Base api.Stamp
	C          state.Content
}

// Done: it stays; or why it doesn't.
type Done struct {
	Range int
	Seal  api.Stamp
	Why   api.Errno
}

// Finish: it stays everywhere: the seal is the floor.
type Finish struct {
	Range int
	Seal  api.Stamp
}

// Beat: the sender is there.
type Beat struct {
}

// Says: its word.
func (Write) Says() string { return "write" }

// Says: its word.
func (Ack) Says() string { return "ack" }

// Says: its word.
func (Ask) Says() string { return "ask" }

// Says: its word.
func (Answer) Says() string { return "answer" }

// Says: its word.
func (Prepare) Says() string { return "prepare" }

// Says: its word.
func (Report) Says() string { return "report" }

// Says: its word.
func (Install) Says() string { return "install" }

// Says: its word.
func (Done) Says() string { return "done" }

// Says: its word.
func (Finish) Says() string { return "finish" }

// Says: its word.
func (Beat) Says() string { return "beat" }

// Msg is a message: from whom, to whom, in which configuration, the sender's last stamp, what it says.
type Msg struct {
	From, To int
	Conf     conf.Conf
	Last     api.Stamp
	Body     Body
}

// Says: the word of what it says; "", if it says nothing.
func (m Msg) Says() (word string) {
	if m.Body == nil {
		return ""
	}
	defer func() {
		if recover() != nil { // a body of any type may be handed in: one that is a nil pointer can't tell its word
			word = ""
		}
	}()
	return m.Body.Says()
}

// own: the message in memory of its own.
func (m Msg) own() Msg {
	m.Body = ownBody(m.Body)
	return m
}

// ownBody: a body in memory of its own; one of which no list is known as it is.
func ownBody(b Body) Body {
	if w, ok := b.(Write); ok {
		w.M = mut.Copy(w.M)
		return w
	}
	if a, ok := b.(Answer); ok {
		a.C = ownContent(a.C)
		return a
	}
	if r, ok := b.(Report); ok {
		r.C = ownContent(r.C)
		return r
	}
	if i, ok := b.(Install); ok {
		i.C = ownContent(i.C)
		return i
	}
	return b
}

// ownContent: all that is there, as it stands.
func ownContent(c state.Content) state.Content {
	return state.Content{Cells: mut.Copies(c.Cells), Wipes: mut.Copies(c.Wipes), Sibs: mut.Copies(c.Sibs)}
}
