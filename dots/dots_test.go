package dots_test

import (
	"cmp"
	"maps"
	"math"
	"math/rand"
	"slices"
	"testing"

	"cenotaph/dots"
	"cenotaph/vector"
)

type dot = vector.Dot

func write(who, n int) dot { return dot{Who: who, N: n} }

// row: writes, of each who, and the how manieth.
func row(l ...int) []dot {
	var all []dot
	for ; len(l) > 1; l = l[2:] {
		all = append(all, write(l[0], l[1]))
	}
	return all
}

// model: the writes of a list that may be.
func model(l []dot) map[dot]bool {
	m := map[dot]bool{}
	for _, d := range l {
		if d.Right() {
			m[d] = true
		}
	}
	return m
}

// known, rest: what a set of these must tell.
func known(m map[dot]bool) vector.Vector {
	v := vector.Vector{}
	for d := range m {
		for d.N = 1; m[d]; d.N++ {
			v[d.Who] = d.N
		}
	}
	return v
}

func rest(m map[dot]bool) []dot {
	var l []dot
	v := known(m)
	for d := range m {
		if d.N > v[d.Who] {
			l = append(l, d)
		}
	}
	slices.SortFunc(l, func(a, b dot) int { return cmp.Or(cmp.Compare(a.Who, b.Who), cmp.Compare(a.N, b.N)) })
	return l
}

// within: has b all of a?
func within(a, b map[dot]bool) bool {
	for d := range a {
		if !b[d] {
			return false
		}
	}
	return true
}

// asked: writes, and what may be none, about the small ones.
func asked() []dot {
	var l []dot
	for _, who := range []int{math.MinInt, -1, 0, 1, 2, 3, math.MaxInt} {
		for _, n := range []int{math.MinInt, -1, 0, 1, 2, 3, 4, 5, 6, 7, 8, vector.Most - 1, vector.Most, vector.Most + 1, math.MaxInt} {
			l = append(l, write(who, n))
		}
	}
	return l
}

// against holds all that a set tells against a model.
func against(t *testing.T, s dots.Set, m map[dot]bool) {
	t.Helper()
	v, l := s.Known(), s.Rest()
	if v == nil || !maps.Equal(v, known(m)) || !slices.Equal(l, rest(m)) {
		t.Fatalf("of %v: Known %v, Rest %v", m, v, l)
	}
	if s.Words() != 2*(len(v)+len(l)) {
		t.Fatalf("Words of %v, %v are %d", v, l, s.Words())
	}
	for _, d := range asked() {
		if s.Has(d) != m[d] {
			t.Fatalf("Has(%v) of %v is %v", d, m, s.Has(d))
		}
	}
}

// P6.1, P6.2: sets of writes that are told.
func TestOf(t *testing.T) {
	for _, c := range []struct {
		l     []dot
		known vector.Vector
		rest  []dot
		words int
	}{
		{nil, vector.Vector{}, nil, 0}, {row(0, 1), vector.Vector{0: 1}, nil, 2}, {row(0, 2), vector.Vector{}, row(0, 2), 2},
		{row(1, 1, 1, 2, 1, 5), vector.Vector{1: 2}, row(1, 5), 4}, {row(1, 5, 1, 2, 1, 1, 1, 2, 1, 5), vector.Vector{1: 2}, row(1, 5), 4},
		{row(1, 3, 1, 2, 1, 1), vector.Vector{1: 3}, nil, 2}, {row(1, 2, 2, 1), vector.Vector{2: 1}, row(1, 2), 4}, {row(2, 3, 1, 9, 1, 4, 2, 5, 0, 7), vector.Vector{}, row(0, 7, 1, 4, 1, 9, 2, 3, 2, 5), 10},
		{row(1, 1, 2, 2, 1, 3, 2, 1, 0, 2), vector.Vector{1: 1, 2: 2}, row(0, 2, 1, 3), 8},
		{row(0, 0, 0, 0, -1, 1, 1, -1, 1, vector.Most+1, math.MinInt, math.MinInt), vector.Vector{}, nil, 0}, {row(-1, 1, -1, 2, 3, 0, 3, 1), vector.Vector{3: 1}, nil, 2},
		{row(4, vector.Most, math.MaxInt, 1), vector.Vector{math.MaxInt: 1}, row(4, vector.Most), 4},
	} {
		before := slices.Clone(c.l)
		s := dots.Of(c.l...)
		if !maps.Equal(s.Known(), c.known) || !slices.Equal(s.Rest(), c.rest) || s.Words() != c.words {
			t.Errorf("Of(%v): Known %v, Rest %v, Words %d", c.l, s.Known(), s.Rest(), s.Words())
		}
		against(t, s, model(c.l))
		if !slices.Equal(c.l, before) {
			t.Errorf("Of changed %v to %v", before, c.l)
		}
	}
}

// P6.1, P6.2: the zero set.
func TestZero(t *testing.T) {
	var zero dots.Set
	against(t, zero, nil)
	against(t, zero.With(dot{}), nil)
	against(t, zero.With(write(1, 1)), model(row(1, 1)))
	against(t, zero.With(write(1, 2)), model(row(1, 2)))
	against(t, dots.Join(zero, zero), nil)
	against(t, dots.Join(zero, dots.Of(write(1, 1), write(1, 3))), model(row(1, 1, 1, 3)))
	if !dots.Same(zero, zero) || !dots.Same(zero, dots.Of()) || !dots.Covers(zero, zero) || !dots.Covers(dots.Of(write(1, 1)), zero) || dots.Covers(zero, dots.Of(write(1, 1))) || dots.Covers(zero, dots.Of(write(1, 2))) || dots.Same(zero, dots.Of(write(1, 2))) {
		t.Error("the zero set isn't empty")
	}
	against(t, zero, nil)
}

// P6.1, P6.2: all orders of a writer's writes: what closes a gap takes what stood behind it.
func TestWithInAllOrders(t *testing.T) {
	var all func(s dots.Set, had []dot)
	all = func(s dots.Set, had []dot) {
		against(t, s, model(had))
		for n := 1; n <= 6; n++ {
			d := write(n%2, (n+1)/2)
			if next := s.With(d); slices.Contains(had, d) {
				if !dots.Same(next, s) {
					t.Fatalf("%v with %v once more", had, d)
				}
			} else {
				all(next, append(slices.Clone(had), d))
			}
		}
		against(t, s, model(had)) // what came of it is other sets
	}
	all(dots.Of(), nil)
	s := dots.Of(row(1, 1, 1, 3, 1, 4, 1, 6, 2, 2)...)
	for _, c := range []struct {
		d     dot
		words int
	}{
		{write(1, 2), 6}, {write(1, 5), 12}, {write(2, 1), 10}, {write(1, 1), 10}, {write(1, 7), 12}, {write(0, 1), 12}, {dot{}, 10}, {write(-1, 1), 10}, {write(1, 0), 10}, {write(1, vector.Most+1), 10}, {write(1, math.MaxInt), 10}, {write(1, vector.Most), 12},
	} {
		if n := s.With(c.d).Words(); n != c.words {
			t.Errorf("with %v: %d words", c.d, n)
		}
	}
}

// few: some writes, more of them close together, and some that may not be.
func few(random *rand.Rand) []dot {
	var l []dot
	for range random.Intn(14) {
		l = append(l, write(random.Intn(3), 1+random.Intn(7)))
	}
	for range random.Intn(3) {
		l = append(l, asked()[random.Intn(len(asked()))])
	}
	return l
}

// P6.1, P6.2: sets made in any way, against all their writes one by one.
func TestAgainstModels(t *testing.T) {
	random := rand.New(rand.NewSource(6))
	for range 20000 {
		l, k := few(random), few(random)
		if random.Intn(4) == 0 {
			k = append(k, l...)
		}
		a, b, ofA, ofB := dots.Of(l...), dots.Of(k...), model(l), model(k)
		both := maps.Clone(ofA)
		maps.Copy(both, ofB)
		against(t, a, ofA)
		against(t, dots.Join(a, b), both)
		var one dots.Set
		for _, d := range l {
			one = one.With(d)
		}
		if !dots.Same(one, a) || !dots.Same(a, one) {
			t.Fatalf("%v one by one are another set", l)
		}
		if ok := dots.Covers(a, b); ok != within(ofB, ofA) {
			t.Fatalf("Covers(%v, %v) is %v", l, k, ok)
		}
		if ok := dots.Same(a, b); ok != maps.Equal(ofA, ofB) {
			t.Fatalf("Same(%v, %v) is %v", l, k, ok)
		}
		against(t, a, ofA)
		against(t, b, ofB)
	}
}

// P6.1: a set covers what a vector of another one tells, and the other way round.
func TestCovers(t *testing.T) {
	for _, c := range []struct {
		a, b []dot
		want bool
	}{
		{row(1, 1, 1, 2, 1, 3), row(1, 2), true}, {row(1, 2), row(1, 1, 1, 2), false}, {row(1, 1, 1, 3), row(1, 1, 1, 2), false}, {row(1, 1, 1, 3), row(1, 3), true},
		{row(1, 1), row(2, 1), false}, {row(1, 2, 2, 2), row(2, 2), true}, {row(1, 1, 2, 2), row(1, 1, 2, 3), false},
	} {
		if ok := dots.Covers(dots.Of(c.a...), dots.Of(c.b...)); ok != c.want {
			t.Errorf("Covers(%v, %v) is %v", c.a, c.b, ok)
		}
	}
}

// P2: what is answered is new: to write to it changes no set.
func TestAnswersAreNew(t *testing.T) {
	l := row(1, 1, 1, 3, 2, 2)
	s := dots.Of(l...)
	grown, joined := s.With(write(3, 3)), dots.Join(s, dots.Of())
	for _, x := range []dots.Set{s, grown, joined} {
		l[0], l[1] = write(7, 1), write(7, 7)
		x.Known()[1] = 9
		x.Known()[5] = 9
		x.Rest()[0] = write(9, 9)
		_ = append(x.Rest(), write(9, 9))
	}
	against(t, s, model(row(1, 1, 1, 3, 2, 2)))
	against(t, grown, model(row(1, 1, 1, 3, 2, 2, 3, 3)))
	against(t, joined, model(row(1, 1, 1, 3, 2, 2)))
}

// P1: many writes end, too.
func TestMany(t *testing.T) {
	var l []dot
	for n := 200000; n > 0; n-- {
		l = append(l, write(n%2, (n+1)/2))
	}
	if s := dots.Of(l...); !maps.Equal(s.Known(), vector.Vector{0: 100000, 1: 100000}) || s.Words() != 4 {
		t.Error(s.Known(), s.Words())
	}
	var s dots.Set
	for n := 2000; n > 1; n-- {
		s = s.With(write(1, n))
	}
	if s.Words() != 2*1999 || s.With(write(1, 1)).Words() != 2 {
		t.Error(s.Words())
	}
}
