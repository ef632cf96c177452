package net_test

import (
	"math"
	"math/rand"
	"reflect"
	"slices"
	"testing"

	"cenotaph/api"
	"cenotaph/conf"
	"cenotaph/net"
	"cenotaph/state"
)

func at(phys int) api.Stamp { return api.Stamp{Phys: phys} }

func sib(key string, phys int) api.Mut {
	return api.Mut{Table: api.Causal, Kind: api.Put, Key: key, Val: "v", At: at(phys), Over: []api.Stamp{at(1), at(2)}}
}

// content: one with something in each list, as it stands in no real one.
func content() state.Content {
	return state.Content{Cells: []api.Mut{sib("a", 3), sib("b", 3)}, Wipes: []api.Mut{sib("c", 3)}, Sibs: []api.Mut{sib("d", 3), {}}}
}

// bodies: one of each type, by their words.
func bodies() map[string]net.Body {
	return map[string]net.Body{
		"write":   net.Write{Op: 7, M: sib("k", 5)},
		"ack":     net.Ack{Op: 7, At: at(1), Why: api.ErrVoid, Fence: at(2)},
		"ask":     net.Ask{Op: 7, Range: 1, From: "a", To: "b"},
		"answer":  net.Answer{Op: 7, Range: 1, No: 3, C: content(), Floor: at(1), Why: api.ErrQuar},
		"prepare": net.Prepare{Range: 1, Seal: at(1)},
		"report":  net.Report{Range: 1, Seal: at(1), Floor: at(2), Fence: at(3), C: content(), Quar: true, Why: api.ErrStale},
		"install": net.Install{Range: 1, Seal: at(1), Base: at(2), C: content()},
		"done":    net.Done{Range: 1, Seal: at(1), Why: api.ErrOrder},
		"finish":  net.Finish{Range: 1, Seal: at(1)},
		"beat":    net.Beat{},
	}
}

func message(b net.Body) net.Msg {
	return net.Msg{From: 1, To: -2, Conf: conf.Conf{Epoch: 3, Out: [5]bool{1: true}, Join: [5]int{2: 1}}, Last: at(9), Body: b}
}

// spoil writes over all that a body's lists have, and over the room behind them.
func spoil(b net.Body) {
	lists := func(c state.Content) {
		for _, l := range [][]api.Mut{c.Cells, c.Wipes, c.Sibs} {
			for i, m := range l[:cap(l)] {
				stamps(m.Over)
				l[:cap(l)][i].Key = "spoilt"
			}
		}
	}
	switch x := b.(type) {
	case net.Write:
		stamps(x.M.Over)
	case net.Answer:
		lists(x.C)
	case net.Report:
		lists(x.C)
	case net.Install:
		lists(x.C)
	}
}

func stamps(l []api.Stamp) {
	for i := range l[:cap(l)] {
		l[:cap(l)][i] = at(99)
	}
}

// foreign bodies: of types that the program doesn't know.

type word []string

func (w word) Says() string { return w[0] }

type broken struct{}

func (broken) Says() string { panic("no word") }

type note struct{ says string }

func (n *note) Says() string { return n.says }

// P22.1: the words.
func TestSays(t *testing.T) {
	for word, b := range bodies() {
		if b.Says() != word || message(b).Says() != word {
			t.Errorf("%T says %q, its message %q", b, b.Says(), message(b).Says())
		}
	}
	for name, c := range map[string]struct {
		b    net.Body
		want string
	}{"none": {nil, ""}, "another type": {word{"hello"}, "hello"}, "a pointer": {&note{"hi"}, "hi"}, "a pointer to a body": {&net.Write{}, "write"}, "a nil pointer": {(*note)(nil), ""}, "a nil pointer to a body": {(*net.Beat)(nil), ""}, "an empty row": {word(nil), ""}, "one that panics": {broken{}, ""}} {
		if s := (net.Msg{Body: c.b}).Says(); s != c.want {
			t.Errorf("%s: %q", name, s)
		}
	}
}

// P22.1: what is sent is told as it was, in whichever way.
func TestToldAsSent(t *testing.T) {
	for word, b := range bodies() {
		for name, told := range map[string]func(n *net.Net) (net.Msg, bool){
			"At":     func(n *net.Net) (net.Msg, bool) { return n.At(0) },
			"Take":   func(n *net.Net) (net.Msg, bool) { return n.Take(0) },
			"Double": func(n *net.Net) (net.Msg, bool) { n.Double(0); return n.Take(1) },
		} {
			n := &net.Net{}
			n.Send(message(b))
			if m, ok := told(n); !ok || !reflect.DeepEqual(m, message(b)) {
				t.Errorf("%s, %s: %v, %v", word, name, m, ok)
			}
		}
	}
}

// P22.1: what is sent, and told, is in memory of its own.
func TestMemoryOfItsOwn(t *testing.T) {
	for word, want := range bodies() {
		sent := bodies()[word]
		n := &net.Net{}
		n.Send(message(sent))
		n.Double(0)
		spoil(sent)
		told, _ := n.At(0)
		spoil(told.Body)
		again, _ := n.At(0)
		if !reflect.DeepEqual(again.Body, want) {
			t.Errorf("%s: what was told is kept: %v", word, again.Body)
		}
		taken, _ := n.Take(0)
		spoil(taken.Body)
		if other, _ := n.At(0); !reflect.DeepEqual(other.Body, want) {
			t.Errorf("%s: the double is the same memory: %v", word, other.Body)
		}
		if !reflect.DeepEqual(again.Body, want) {
			t.Errorf("%s: what was told became %v", word, again.Body)
		}
	}
}

// P22.1: bodies of other types are kept as they are.
func TestOtherBodies(t *testing.T) {
	n := &net.Net{}
	p := &net.Write{M: sib("k", 5)}
	w := word{"hello"}
	for _, b := range []net.Body{p, w, nil, (*net.Beat)(nil), broken{}} {
		if !n.Send(message(b)) {
			t.Error("it isn't sent")
		}
		n.Double(-1)
	}
	w[0], p.Op = "changed", 7
	for range 2 {
		if m, ok := n.Take(0); !ok || m.Body != net.Body(p) {
			t.Error(m, ok)
		}
	}
	if m, ok := n.At(0); !ok || m.Says() != "changed" || n.Len() != 8 {
		t.Error(m, ok)
	}
	if m, ok := n.At(2); !ok || m.Body != nil || m.Says() != "" || m.From != 1 {
		t.Error(m, ok)
	}
}

// P22.1: places are counted round.
func TestPlaces(t *testing.T) {
	n := &net.Net{}
	for i := range 5 {
		n.Send(net.Msg{From: i})
	}
	for i, want := range map[int]int{0: 0, 4: 4, 5: 0, 7: 2, 5000000001: 1, math.MaxInt: math.MaxInt % 5, -1: 4, -5: 0, -6: 4, math.MinInt: 2} {
		if m, ok := n.At(i); m.From != want || !ok {
			t.Errorf("At(%d) is %d, %v", i, m.From, ok)
		}
	}
	if m, ok := n.Take(-6); m.From != 4 || !ok || n.Len() != 4 {
		t.Error(m.From, ok)
	}
	if !n.Lose(-4) || n.Len() != 3 || n.Lost() != 1 {
		t.Error("the first one isn't lost")
	}
	if m, _ := n.At(0); m.From != 1 {
		t.Error("the first one is", m.From)
	}
	if !n.Double(4) || n.Len() != 4 {
		t.Error("the second one isn't sent once more")
	}
	if m, _ := n.At(-1); m.From != 2 {
		t.Error("the last one is", m.From)
	}
}

// P22.1: without messages there is none at any place.
func TestNothingUnderWay(t *testing.T) {
	emptied := &net.Net{}
	emptied.Send(net.Msg{From: 1})
	emptied.Take(0)
	for _, n := range []*net.Net{{}, emptied} {
		for _, i := range []int{0, 1, -1, math.MaxInt, math.MinInt} {
			for name, of := range map[string]func(int) (net.Msg, bool){"At": n.At, "Take": n.Take} {
				if m, ok := of(i); ok || m != (net.Msg{}) {
					t.Errorf("%s(%d) is %v, %v", name, i, m, ok)
				}
			}
			if n.Lose(i) || n.Double(i) || n.Len() != 0 || n.Lost() != 0 {
				t.Errorf("at %d: Len %d, Lost %d", i, n.Len(), n.Lost())
			}
		}
	}
}

// P22.1: at Most messages one more is lost.
func TestMost(t *testing.T) {
	n := &net.Net{}
	for i := range net.Most {
		if !n.Send(net.Msg{From: i}) || n.Len() != i+1 {
			t.Fatal("it isn't sent:", i)
		}
	}
	if net.Most != 1000 || n.Send(net.Msg{From: 7}) || n.Lost() != 1 || n.Len() != 1000 {
		t.Error("one more is under way:", n.Len(), n.Lost())
	}
	if n.Double(3) || n.Lost() != 2 || n.Len() != 1000 {
		t.Error("a double is under way:", n.Len(), n.Lost())
	}
	if m, ok := n.At(-1); !ok || m.From != 999 {
		t.Error("the last one is", m.From)
	}
	n.Take(0)
	if !n.Double(0) || n.Len() != 1000 || n.Lost() != 2 || n.Send(net.Msg{}) || n.Lost() != 3 {
		t.Error("there was no room:", n.Len(), n.Lost())
	}
}

// P22.1: any calls, against a row.
func TestAgainstModels(t *testing.T) {
	random := rand.New(rand.NewSource(22))
	for range 300 {
		n, row, lost := &net.Net{}, []int(nil), 0
		if random.Intn(3) == 0 {
			for i := range net.Most - random.Intn(4) {
				n.Send(net.Msg{From: i})
				row = append(row, i)
			}
		}
		for range 200 {
			i := random.Intn(4000) - 2000
			place := 0
			if len(row) > 0 {
				place = ((i % len(row)) + len(row)) % len(row)
			}
			had, room := len(row) > 0, len(row) < net.Most
			switch random.Intn(6) {
			case 0, 1:
				if n.Send(net.Msg{From: i}) != room {
					t.Fatal("Send is", !room)
				}
				if room {
					row = append(row, i)
				} else {
					lost++
				}
			case 2:
				if m, ok := n.At(i); ok != had || had && m.From != row[place] {
					t.Fatal("At is", m.From, ok)
				}
			case 3:
				if m, ok := n.Take(i); ok != had || had && m.From != row[place] {
					t.Fatal("Take is", m.From, ok)
				}
				if had {
					row = slices.Delete(row, place, place+1)
				}
			case 4:
				if n.Lose(i) != had {
					t.Fatal("Lose is", !had)
				}
				if had {
					row = slices.Delete(row, place, place+1)
					lost++
				}
			case 5:
				if n.Double(i) != (had && room) {
					t.Fatal("Double is", !(had && room))
				}
				if had && room {
					row = append(row, row[place])
				} else if had {
					lost++
				}
			}
			if n.Len() != len(row) || n.Lost() != lost {
				t.Fatal("Len, Lost are", n.Len(), n.Lost())
			}
		}
		for i := range row {
			if m, ok := n.At(i); !ok || m.From != row[i] {
				t.Fatal("in the end", i, "is", m.From)
			}
		}
	}
}
