package trace_test

import (
	"math"
	"reflect"
	"slices"
	"testing"

	"cenotaph/api"
	"cenotaph/state"
	"cenotaph/trace"
)

func at(phys, logic, who int) api.Stamp { return api.Stamp{Phys: phys, Logic: logic, Who: who} }

func put(key, val string, at api.Stamp) api.Mut {
	return api.Mut{Table: api.Last, Kind: api.Put, Key: key, Val: val, At: at}
}

// P30.1: mutations as words.
func TestMut(t *testing.T) {
	s := at(2, 0, 1)
	for want, m := range map[string]api.Mut{
		`put k 2.0.1 "v"`:                 put("k", "v", s),
		`put k 2.0.1 ""`:                  put("k", "", s),
		`put k 2.0.1 "a \"\\ \x0a\xff"`:   put("k", "a \"\\ \n\xff", s),
		`put k 9.1.3 "w"`:                 {Table: api.Causal, Kind: api.Put, Key: "k", Val: "w", At: at(9, 1, 3), Over: []api.Stamp{s}},
		`put k 2.0.1 "x"`:                 {Kind: api.Put, Key: "k", End: "z", Val: "x", Expiry: 7, At: s},
		`del k 2.0.1`:                     {Kind: api.Del, Key: "k", End: "z", Val: "v", At: s},
		`wipe k z 2.0.1`:                  {Table: api.Last, Kind: api.Wipe, Key: "k", End: "z", Val: "v", At: s},
		`wipe   0.0.0`:                    {Kind: api.Wipe},
		`none  0.0.0`:                     {},
		`none k 2.0.1`:                    {Kind: 4, Key: "k", End: "z", Val: "v", At: s},
		"none k\xff 0.7.1125899906842624": {Kind: -1, Key: "k\xff", At: at(-5, 7, math.MaxInt)},
		`del a b 2.0.1`:                   {Kind: api.Del, Key: "a b", At: s},
	} {
		if l := trace.Mut(m); l != want {
			t.Errorf("%v is %q, not %q", m, l, want)
		}
	}
}

// full is an event all of whose fields say something.
func full(k trace.Kind) trace.Event {
	over := []api.Stamp{at(1, 0, 0)}
	m := api.Mut{Table: api.Causal, Kind: api.Put, Key: "k", Val: "v", At: at(2, 0, 1), Over: over}
	return trace.Event{
		Kind: k, Node: 3, Range: 2, Op: 14, M: m,
		C: state.Of(m, put("a", "v", at(5, 0, 0)), api.Mut{Table: api.Last, Kind: api.Wipe, Key: "b", End: "c", At: at(6, 0, 0)}),
		S: at(7, 1, 0), Base: at(4, 0, 2), Quar: true, Why: api.ErrStale, Q: []int{2, 0, 1}, Nos: []int{5, 6, 7}, No: 8, Table: api.Causal, Key: "x", End: "y",
		Rows: []api.Row{{Key: "k", Val: "v w", At: at(2, 0, 1)}, {Key: "l", Val: "", At: at(3, 0, 1)}}, Ctx: []api.Stamp{at(2, 0, 1), at(3, 0, 1)},
	}
}

// P30.1: events as lines, each of which has just what its kind tells.
func TestLine(t *testing.T) {
	for k, want := range map[trace.Kind]string{
		trace.Accept: `accept 3 2 put k 2.0.1 "v"`, trace.Install: `install 3 2 7.1.0`, trace.Finish: `finish 3 2 7.1.0`, trace.Swept: `swept 3 2 put k 2.0.1 "v"`, trace.Reply: `reply 3 14 180 2,0,1 k="v w" l=""`, trace.Down: `down 3`, trace.Up: `up 3 2`, trace.Quar: `quarantine 3 2`, trace.Try: `try 3 2`, trace.Told: `told 3 2 14`, trace.Began: `began 3 14`,
		0: "", 12: "", -1: "", math.MaxInt: "", math.MinInt: "",
	} {
		if l := trace.Line(full(k)); l != want {
			t.Errorf("of the kind %d the line is %q, not %q", k, l, want)
		}
	}
	for want, e := range map[string]trace.Event{
		`accept 0 1 put k 2.0.1 "v"`:      {Kind: trace.Accept, Range: 1, M: put("k", "v", at(2, 0, 1))},
		`accept 0 0 none  0.0.0`:          {Kind: trace.Accept},
		`swept 0 0 wipe a b 1.0.0`:        {Kind: trace.Swept, M: api.Mut{Kind: api.Wipe, Key: "a", End: "b", At: at(1, 0, 0)}},
		`install 0 0 0.0.0`:               {Kind: trace.Install},
		`finish 0 1125899906842624 0.0.0`: {Kind: trace.Finish, Node: -7, Range: math.MaxInt},
		`down 0`:                          {Kind: trace.Down, Node: math.MinInt},
		`told 1125899906842624 0 0`:       {Kind: trace.Told, Node: math.MaxInt, Range: -1, Op: -2},
		`began 0 0`:                       {Kind: trace.Began, Op: -1},
		`reply 0 0 0`:                     {Kind: trace.Reply},
		`reply 1 2 290`:                   {Kind: trace.Reply, Node: 1, Op: 2, Why: api.ErrLevel, Q: []int{}, Nos: []int{4}, Rows: []api.Row{}},
		`reply 1 2 0`:                     {Kind: trace.Reply, Node: 1, Op: 2, Why: -3},
		`reply 1 2 0 4`:                   {Kind: trace.Reply, Node: 1, Op: 2, Q: []int{4}},
		`reply 1 2 0 0,0,3`:               {Kind: trace.Reply, Node: 1, Op: 2, Q: []int{-1, 0, 3}},
		`reply 1 2 0 k="\"" ="\x00"`:      {Kind: trace.Reply, Node: 1, Op: 2, Rows: []api.Row{{Key: "k", Val: `"`}, {Val: "\x00"}}},
		`reply 1 2 0 1 a b="c d"`:         {Kind: trace.Reply, Node: 1, Op: 2, Q: []int{1}, Rows: []api.Row{{Key: "a b", Val: "c d"}}},
	} {
		if l := trace.Line(e); l != want {
			t.Errorf("the line is %q, not %q", l, want)
		}
	}
}

// some: events of all kinds in turn, and of such as are none; each has its place as its number.
func some(n int) []trace.Event {
	var l []trace.Event
	for i := range n {
		e := full(trace.Kind(i % 13))
		e.No, e.Op = i, i/26
		l = append(l, e)
	}
	return l
}

// P30.2: events of a kind, and their places, in their order; left, and gone through again.
func TestOf(t *testing.T) {
	l := some(100)
	for k := trace.Kind(-1); k < 15; k++ {
		var want []int
		for i := range l {
			if trace.Kind(i%13) == k {
				want = append(want, i)
			}
		}
		seq := trace.Of(k, l)
		for range 2 {
			var got []int
			for i, e := range seq {
				if e.Kind != k || e.No != i || !reflect.DeepEqual(e, l[i]) {
					t.Fatalf("at %d there is %v", i, e)
				}
				got = append(got, i)
			}
			if !slices.Equal(got, want) {
				t.Errorf("of the kind %d there are %v, not %v", k, got, want)
			}
		}
		n := 0
		for i := range seq {
			if i != want[n] {
				t.Errorf("the first ones are at %d", i)
			}
			if n++; n == 2 {
				break
			}
		}
	}
	for range trace.Of(trace.Reply, nil) {
		t.Error("there is one of none")
	}
}

// P30.2: the first reply of an operation.
func TestAnswer(t *testing.T) {
	l := some(100)
	for op, want := range map[int]int{0: 5, 1: 31, 2: 57, 3: 83, 4: -1, -1: -1, math.MaxInt: -1} {
		e, ok := trace.Answer(op, l)
		if ok != (want >= 0) || ok && (e.No != want || !reflect.DeepEqual(e, l[want])) || !ok && !reflect.DeepEqual(e, trace.Event{}) {
			t.Errorf("of %d the answer is %v, %v", op, e, ok)
		}
	}
	if e, ok := trace.Answer(0, []trace.Event{full(trace.Accept), full(trace.Told), {Kind: trace.Began}}); ok || !reflect.DeepEqual(e, trace.Event{}) {
		t.Error("without a reply there is", e)
	}
	if _, ok := trace.Answer(0, nil); ok {
		t.Error("there is an answer of none")
	}
}

// spoil writes over all that an event's lists have, and what lies behind their lengths.
func spoil(e *trace.Event) {
	stamps := func(l []api.Stamp) {
		for i := range l[:cap(l)] {
			l[:cap(l)][i] = at(99, 99, 99)
		}
	}
	numbers := func(l []int) {
		for i := range l[:cap(l)] {
			l[:cap(l)][i] = 99
		}
	}
	stamps(e.M.Over)
	stamps(e.Ctx)
	numbers(e.Q)
	numbers(e.Nos)
	for i := range e.Rows {
		e.Rows[i] = api.Row{Key: "spoilt"}
	}
	for _, l := range [][]api.Mut{e.C.Cells, e.C.Wipes, e.C.Sibs} {
		for i := range l {
			stamps(l[i].Over)
			l[i].Key = "spoilt"
		}
	}
}

// P30.2, rule 5: what is told is the same, in memory of its own.
func TestCopies(t *testing.T) {
	want := func(k trace.Kind) trace.Event { return full(k) }
	e := full(trace.Reply)
	c := trace.Copy(e)
	if !reflect.DeepEqual(c, e) || !reflect.DeepEqual(e, want(trace.Reply)) {
		t.Error("the copy is", c)
	}
	spoil(&c)
	if !reflect.DeepEqual(e, want(trace.Reply)) {
		t.Error("what was handed in became", e)
	}
	l := []trace.Event{e, full(trace.Accept)}
	seq := trace.Of(trace.Reply, l)
	for range 2 {
		for _, x := range seq {
			if !reflect.DeepEqual(x, want(trace.Reply)) {
				t.Error("told is", x)
			}
			spoil(&x)
		}
	}
	a, _ := trace.Answer(14, l)
	spoil(&a)
	if !reflect.DeepEqual(l, []trace.Event{want(trace.Reply), want(trace.Accept)}) {
		t.Error("what was handed in became", l)
	}
	spoil(&l[0])
	l[0].No = 77
	for _, x := range seq {
		if !reflect.DeepEqual(x, want(trace.Reply)) {
			t.Error("what was handed in is kept:", x)
		}
	}
	if c := trace.Copy(trace.Event{}); !reflect.DeepEqual(c, trace.Event{}) {
		t.Error("the copy of nothing is", c)
	}
	short := full(trace.Reply)
	short.Q, short.Nos, short.Ctx, short.Rows, short.C.Cells = short.Q[:1], short.Nos[:0], short.Ctx[:1], short.Rows[:1], short.C.Cells[:0]
	c = trace.Copy(short)
	if !reflect.DeepEqual(c, short) {
		t.Error("the copy is", c)
	}
	if c.Q = c.Q[:cap(c.Q)]; slices.ContainsFunc(c.Q[1:], func(n int) bool { return n != 0 }) {
		t.Error("behind the length there is", c.Q)
	}
}
