package vector_test

import (
	"maps"
	"math"
	"slices"
	"testing"

	"cenotaph/vector"
)

type (
	dot  = vector.Dot
	vect = vector.Vector
)

// whos, ns: what is asked of the small vectors, with what no write has.
var (
	whos = []int{math.MinInt, -1, 0, 1, 2, 3, math.MaxInt}
	ns   = []int{math.MinInt, -1, 0, 1, 2, 3, 4, vector.Most - 1, vector.Most, vector.Most + 1, math.MaxInt}
)

// small: all vectors of three writers with numbers of these.
func small() []vect {
	var l []vect
	numbers := []int{0, 1, 3, vector.Most}
	for _, a := range numbers {
		for _, b := range numbers {
			for _, c := range numbers {
				l = append(l, vector.Of(dot{Who: 0, N: a}, dot{Who: 2, N: b}, dot{Who: math.MaxInt, N: c}))
			}
		}
	}
	return l
}

// knows: of all writes that are asked of, which a vector knows.
func knows(v vect) map[dot]bool {
	m := map[dot]bool{}
	for _, who := range whos {
		for _, n := range ns {
			if d := (dot{Who: who, N: n}); v.Knows(d) {
				m[d] = true
			}
		}
	}
	return m
}

// within: has b all of a?
func within(a, b map[dot]bool) bool {
	for d := range a {
		if !b[d] {
			return false
		}
	}
	return true
}

// trim: is nothing in a vector but writes that may be?
func trim(v vect) bool {
	for who, n := range v {
		if !(dot{Who: who, N: n}).Right() {
			return false
		}
	}
	return v != nil
}

// P5.1: which writes may be.
func TestRight(t *testing.T) {
	for _, who := range whos {
		for _, n := range ns {
			want := who >= 0 && n >= 1 && n <= 1<<40
			if ok := (dot{Who: who, N: n}).Right(); ok != want {
				t.Errorf("Right of %d, %d is %v", who, n, ok)
			}
		}
	}
	if vector.Most != 1<<40 {
		t.Error(vector.Most)
	}
}

// P5.1: the least vector of writes.
func TestOf(t *testing.T) {
	for _, c := range []struct {
		l    []dot
		want vect
	}{
		{nil, vect{}}, {[]dot{}, vect{}}, {[]dot{{}}, vect{}}, {[]dot{{0, 1}}, vect{0: 1}}, {[]dot{{3, 4}}, vect{3: 4}},
		{[]dot{{1, 2}, {1, 5}, {1, 3}}, vect{1: 5}}, {[]dot{{1, 5}, {1, 2}}, vect{1: 5}}, {[]dot{{2, 1}, {0, 7}, {2, 1}}, vect{0: 7, 2: 1}},
		{[]dot{{-1, 3}, {1, 0}, {1, -4}, {2, 1 << 40}, {3, 1<<40 + 1}}, vect{2: 1 << 40}}, {[]dot{{1, 3}, {1, 1<<40 + 1}, {1, math.MaxInt}}, vect{1: 3}},
		{[]dot{{math.MaxInt, 1}, {math.MinInt, 1}}, vect{math.MaxInt: 1}},
	} {
		before := slices.Clone(c.l)
		if v := vector.Of(c.l...); v == nil || !maps.Equal(v, c.want) {
			t.Errorf("Of(%v) is %v", c.l, v)
		}
		if !slices.Equal(c.l, before) {
			t.Errorf("Of changed %v to %v", before, c.l)
		}
	}
	vector.Of()[1] = 2 // what is answered can be written to
}

// P5.1: what a vector knows.
func TestKnows(t *testing.T) {
	v := vect{0: 2, 3: 1 << 40, 4: 0, 5: -3, -1: 9, 6: math.MaxInt}
	for _, c := range []struct {
		d    dot
		want bool
	}{
		{dot{0, 0}, false}, {dot{0, 1}, true}, {dot{0, 2}, true}, {dot{0, 3}, false}, {dot{0, -1}, false}, {dot{1, 1}, false}, {dot{1, 0}, false},
		{dot{3, 1}, true}, {dot{3, 1 << 40}, true}, {dot{3, 1<<40 + 1}, false}, {dot{4, 1}, false}, {dot{4, 0}, false}, {dot{5, -3}, false}, {dot{5, 1}, false},
		{dot{-1, 1}, false}, {dot{-1, 9}, false}, {dot{6, 1 << 40}, true}, {dot{6, 1<<40 + 1}, false}, {dot{6, math.MaxInt}, false}, {dot{}, false},
	} {
		if ok := v.Knows(c.d); ok != c.want {
			t.Errorf("%v knows %v: %v", v, c.d, ok)
		}
	}
	if (vect)(nil).Knows(dot{0, 1}) || (vect)(nil).Knows(dot{}) {
		t.Error("a vector of nothing knows something")
	}
	if len(v) != 6 {
		t.Errorf("to ask changed it to %v", v)
	}
}

// P5.1: all writers that are in it, rising.
func TestDots(t *testing.T) {
	for _, c := range []struct {
		v    vect
		want []dot
	}{
		{nil, nil}, {vect{}, nil}, {vect{3: 4}, []dot{{3, 4}}}, {vect{10: 1, 9: 2, 0: 3}, []dot{{0, 3}, {9, 2}, {10, 1}}},
		{vect{1: 0, -2: 5, 0: -1, math.MinInt: 7, math.MaxInt: math.MaxInt}, []dot{{math.MinInt, 7}, {-2, 5}, {0, -1}, {1, 0}, {math.MaxInt, math.MaxInt}}},
	} {
		dots := c.v.Dots()
		for range 3 {
			if l := slices.Collect(dots); !slices.Equal(l, c.want) {
				t.Errorf("Dots of %v are %v", c.v, l)
			}
		}
	}
}

// P5.1, P1: Dots left early, gone through again, and of a vector that changes.
func TestDotsAgain(t *testing.T) {
	v := vect{5: 1, 2: 2, 8: 3}
	dots := v.Dots()
	for most := range 4 {
		var l []dot
		for d := range dots {
			if len(l) == most {
				break
			}
			l = append(l, d)
		}
		if !slices.Equal(l, []dot{{2, 2}, {5, 1}, {8, 3}}[:most]) {
			t.Errorf("the first %d: %v", most, l)
		}
	}
	v[1] = 9
	delete(v, 8)
	if l := slices.Collect(dots); !slices.Equal(l, []dot{{1, 9}, {2, 2}, {5, 1}}) {
		t.Errorf("behind a change: %v", l)
	}
	for d := range dots {
		delete(v, d.Who)
	}
	if len(v) != 0 || len(slices.Collect(dots)) != 0 {
		t.Errorf("%v is left", v)
	}
}

// P5.2: two vectors made one, and how they stand.
func TestJoinMeetCompare(t *testing.T) {
	for _, c := range []struct {
		a, b, join, meet vect
		order            vector.Order
	}{
		{nil, nil, vect{}, vect{}, vector.Same}, {nil, vect{}, vect{}, vect{}, vector.Same}, {vect{1: 2}, nil, vect{1: 2}, vect{}, vector.Ahead}, {nil, vect{1: 2}, vect{1: 2}, vect{}, vector.Behind},
		{vect{0: 2}, vect{0: 1, 3: 4}, vect{0: 2, 3: 4}, vect{0: 1}, vector.Neither}, {vect{0: 2}, vect{3: 4}, vect{0: 2, 3: 4}, vect{}, vector.Neither},
		{vect{1: 2, 5: 6}, vect{5: 6, 1: 2}, vect{1: 2, 5: 6}, vect{1: 2, 5: 6}, vector.Same}, {vect{1: 2, 5: 6}, vect{1: 2, 5: 5}, vect{1: 2, 5: 6}, vect{1: 2, 5: 5}, vector.Ahead},
		{vect{1: 2}, vect{1: 3}, vect{1: 3}, vect{1: 2}, vector.Behind}, {vect{1: 2}, vect{1: 2, 0: 1}, vect{0: 1, 1: 2}, vect{1: 2}, vector.Behind},
		{vect{7: 1 << 40}, vect{7: 1}, vect{7: 1 << 40}, vect{7: 1}, vector.Ahead},
	} {
		if v := vector.Join(c.a, c.b); v == nil || !maps.Equal(v, c.join) {
			t.Errorf("Join(%v, %v) is %v", c.a, c.b, v)
		}
		if v := vector.Meet(c.a, c.b); v == nil || !maps.Equal(v, c.meet) {
			t.Errorf("Meet(%v, %v) is %v", c.a, c.b, v)
		}
		if o := vector.Compare(c.a, c.b); o != c.order {
			t.Errorf("Compare(%v, %v) is %v", c.a, c.b, o)
		}
		if ok := vector.Covers(c.a, c.b); ok != (c.order == vector.Same || c.order == vector.Ahead) {
			t.Errorf("Covers(%v, %v) is %v", c.a, c.b, ok)
		}
	}
	if vector.Same != 0 || vector.Behind != 1 || vector.Ahead != 2 || vector.Neither != 3 {
		t.Error("the orders' numbers")
	}
}

// P5.2: the same of all small vectors, by the writes that they know.
func TestAgainstWhatTheyKnow(t *testing.T) {
	for _, a := range small() {
		for _, b := range small() {
			beforeA, beforeB := maps.Clone(a), maps.Clone(b)
			ofA, ofB := knows(a), knows(b)
			either, both := maps.Clone(ofA), maps.Clone(ofA)
			maps.Copy(either, ofB)
			maps.DeleteFunc(both, func(d dot, _ bool) bool { return !ofB[d] })
			if v := vector.Join(a, b); !trim(v) || !maps.Equal(knows(v), either) {
				t.Fatalf("Join(%v, %v) is %v", a, b, v)
			}
			if v := vector.Meet(a, b); !trim(v) || !maps.Equal(knows(v), both) {
				t.Fatalf("Meet(%v, %v) is %v", a, b, v)
			}
			want := vector.Neither
			switch first, second := within(ofB, ofA), within(ofA, ofB); {
			case first && second:
				want = vector.Same
			case second:
				want = vector.Behind
			case first:
				want = vector.Ahead
			}
			if o := vector.Compare(a, b); o != want {
				t.Fatalf("Compare(%v, %v) is %v", a, b, o)
			}
			if ok := vector.Covers(a, b); ok != within(ofB, ofA) {
				t.Fatalf("Covers(%v, %v) is %v", a, b, ok)
			}
			if !maps.Equal(a, beforeA) || !maps.Equal(b, beforeB) {
				t.Fatalf("%v, %v were changed to %v, %v", beforeA, beforeB, a, b)
			}
		}
	}
}

// P5.3: the write behind the last one known.
func TestNext(t *testing.T) {
	for _, c := range []struct {
		v    vect
		who  int
		d    dot
		want vect
	}{
		{nil, 0, dot{0, 1}, vect{0: 1}}, {vect{}, 7, dot{7, 1}, vect{7: 1}}, {vect{7: 1, 2: 3}, 7, dot{7, 2}, vect{7: 2, 2: 3}}, {vect{2: 3}, 7, dot{7, 1}, vect{7: 1, 2: 3}},
		{vect{1: 1<<40 - 1}, 1, dot{1, 1 << 40}, vect{1: 1 << 40}}, {vect{1: 1 << 40}, 0, dot{0, 1}, vect{0: 1, 1: 1 << 40}}, {nil, math.MaxInt, dot{math.MaxInt, 1}, vect{math.MaxInt: 1}},
	} {
		before := maps.Clone(c.v)
		d, v, ok := c.v.Next(c.who)
		if d != c.d || !maps.Equal(v, c.want) || !ok {
			t.Errorf("Next of %v, %d is %v, %v, %v", c.v, c.who, d, v, ok)
		}
		v[99] = 1
		if !maps.Equal(c.v, before) {
			t.Errorf("%v was changed to %v", before, c.v)
		}
	}
	for _, c := range []struct {
		v   vect
		who int
	}{
		{nil, -1}, {vect{}, math.MinInt}, {vect{1: 2}, -1}, {vect{1: 1 << 40}, 1}, {vect{-1: 4}, -1}, {vect{1: math.MaxInt}, 1}, {vect{1: -1}, 1},
	} {
		if d, v, ok := c.v.Next(c.who); d != (dot{}) || len(v) != 0 || ok {
			t.Errorf("Next of %v, %d is %v, %v, %v", c.v, c.who, d, v, ok)
		}
	}
}

// P5.4: what follows.
func TestLaws(t *testing.T) {
	all := small()
	for _, a := range all {
		if !maps.Equal(vector.Join(a, a), a) || !maps.Equal(vector.Meet(a, a), a) {
			t.Fatalf("of %v alone: %v, %v", a, vector.Join(a, a), vector.Meet(a, a))
		}
		for _, b := range all {
			join, meet := vector.Join(a, b), vector.Meet(a, b)
			if !maps.Equal(join, vector.Join(b, a)) || !maps.Equal(meet, vector.Meet(b, a)) {
				t.Fatalf("%v and %v in the other order", a, b)
			}
			if !maps.Equal(vector.Meet(a, join), a) || !maps.Equal(vector.Join(a, meet), a) {
				t.Fatalf("Meet of %v with %v is %v", a, join, vector.Meet(a, join))
			}
			for _, c := range all {
				if !maps.Equal(vector.Join(join, c), vector.Join(a, vector.Join(b, c))) || !maps.Equal(vector.Meet(meet, c), vector.Meet(a, vector.Meet(b, c))) {
					t.Fatalf("%v, %v and %v in the other order", a, b, c)
				}
			}
		}
	}
}

// P2: what is answered is new, and nothing of it is kept.
func TestAnswersAreNew(t *testing.T) {
	a, b := vect{1: 2, 3: 4}, vect{1: 3}
	for range 2 {
		for _, v := range []vect{vector.Join(a, b), vector.Join(a, nil), vector.Join(nil, a), vector.Join(a, a), vector.Meet(a, b), vector.Meet(a, a), vector.Meet(nil, a)} {
			v[1], v[9] = 77, 77
		}
		if !maps.Equal(a, vect{1: 2, 3: 4}) || !maps.Equal(b, vect{1: 3}) || !maps.Equal(vector.Join(a, b), vect{1: 3, 3: 4}) {
			t.Fatalf("%v, %v: %v", a, b, vector.Join(a, b))
		}
	}
}

// P1: any vectors at all: the calls end, and none panics.
func TestAnyVectors(t *testing.T) {
	strange := []vect{nil, {0: 0}, {-1: 1}, {math.MinInt: math.MinInt}, {math.MaxInt: math.MaxInt}, {0: -1, 1: 2}, {1: vector.Most + 1}}
	for _, a := range strange {
		for _, b := range strange {
			before := maps.Clone(a)
			vector.Join(a, b)
			vector.Meet(a, b)
			vector.Covers(a, b)
			vector.Compare(a, b)
			for _, n := range whos {
				a.Next(n)
			}
			if !maps.Equal(a, before) {
				t.Errorf("%v was changed to %v", before, a)
			}
		}
	}
}
