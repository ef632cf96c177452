package spans_test

import (
	"math/rand"
	"slices"
	"testing"

	"cenotaph/spans"
)

type span = spans.Span

// row: spans, of each where it begins, and ends.
func row(l ...string) []span {
	var all []span
	for ; len(l) > 1; l = l[2:] {
		all = append(all, span{From: l[0], To: l[1]})
	}
	return all
}

// texts: all about which is asked: where spans of the tests begin and end, and what lies between.
func texts() []string {
	var l []string
	for _, s := range []string{"", "\x00", "a", "ab", "b", "c", "d", "e", "x", "\xff", "\xff\xff"} {
		l = append(l, s, s+"\x00", s+"\xff")
	}
	slices.Sort(l)
	return slices.Compact(l)
}

func within(l []span, key string) bool {
	return slices.ContainsFunc(l, func(s span) bool { return s.From <= key && key < s.To })
}

// against holds all that a set tells against what is in it.
func against(t *testing.T, s spans.Set, is func(string) bool) {
	t.Helper()
	all := s.All()
	for i, x := range all {
		if x.From >= x.To || i > 0 && all[i-1].To >= x.From {
			t.Fatal("the spans don't rise, or touch:", all)
		}
	}
	for _, key := range texts() {
		if s.Has(key) != is(key) || within(all, key) != is(key) {
			t.Fatalf("%q in %v: Has is %v", key, all, s.Has(key))
		}
	}
}

// P46.1: what a span has.
func TestSpan(t *testing.T) {
	for key, want := range map[string]bool{"a": false, "b": true, "b\x00": true, "c": true, "c\xff": true, "d": false, "d\x00": false, "": false, "B": false} {
		if (span{From: "b", To: "d"}).Has(key) != want {
			t.Errorf("Has(%q) is %v", key, !want)
		}
		for _, s := range row("d", "b", "b", "b", "", "", "c", "") {
			if s.Has(key) {
				t.Errorf("%q is in %v", key, s)
			}
		}
	}
	if !(span{To: "a"}).Has("") || (span{}).Has("") {
		t.Error("the empty text")
	}
}

// P46.1: sets that are told.
func TestOf(t *testing.T) {
	for _, c := range []struct{ l, want []span }{
		{nil, nil}, {row("a", "c", "c", "e", "x", "x"), row("a", "e")}, {row("x", "x"), nil}, {row("x", "a", "", "", "b", ""), nil}, {row("c", "e", "a", "c"), row("a", "e")}, {row("a", "b", "c", "d"), row("a", "b", "c", "d")}, {row("c", "d", "a", "b"), row("a", "b", "c", "d")},
		{row("a", "e", "b", "c"), row("a", "e")}, {row("b", "c", "a", "e"), row("a", "e")}, {row("a", "c", "b", "d"), row("a", "d")}, {row("a", "b", "a", "b"), row("a", "b")}, {row("a", "b", "a", "d", "a", "c"), row("a", "d")}, {row("", "a"), row("", "a")}, {row("", "\x00", "\x00", "a"), row("", "a")},
		{row("a", "b", "b\x00", "c"), row("a", "b", "b\x00", "c")}, {row("a", "b", "b", "b\x00", "b\x00", "c"), row("a", "c")}, {row("a", "b", "d", "e", "b", "d"), row("a", "e")}, {row("d", "c", "a", "b", "c", "d"), row("a", "b", "c", "d")}, {row("\xff", "\xff\xff", "a", "\u00e9"), row("a", "\u00e9", "\xff", "\xff\xff")},
	} {
		l := append(slices.Clone(c.l), row("a", "z")...)[:len(c.l)]
		s := spans.Of(l...)
		if !slices.Equal(s.All(), c.want) {
			t.Errorf("Of(%v) is %v", c.l, s.All())
		}
		if !slices.Equal(l, c.l) {
			t.Errorf("%v became %v", c.l, l)
		}
		against(t, s, func(key string) bool { return within(c.l, key) })
	}
}

// P46.1: the zero set.
func TestZero(t *testing.T) {
	var zero spans.Set
	a := spans.Of(row("a", "c")...)
	none := func(string) bool { return false }
	for _, s := range []spans.Set{zero, spans.Of(), spans.Meet(zero, a), spans.Meet(a, zero), spans.Less(zero, a), spans.Less(a, a), spans.Join(zero, zero)} {
		against(t, s, none)
		if !spans.Same(s, zero) || !spans.Same(zero, s) || spans.Same(s, a) || len(s.All()) != 0 || !s.Covers(span{}) || !s.Covers(span{From: "b", To: "a"}) || s.Covers(span{To: "a"}) {
			t.Error("it isn't empty:", s.All())
		}
	}
	if !spans.Same(spans.Join(zero, a), a) || !spans.Same(spans.Join(a, zero), a) || !spans.Same(spans.Less(a, zero), a) {
		t.Error("nothing changes a set")
	}
}

// P46.1: which spans a set covers.
func TestCovers(t *testing.T) {
	s := spans.Of(row("b", "d", "e", "x")...)
	for _, c := range []struct {
		from, to string
		want     bool
	}{
		{"b", "d", true}, {"b", "c", true}, {"c", "d", true}, {"b\x00", "c\xff", true}, {"b", "d\x00", false}, {"a", "c", false}, {"a", "b", false}, {"c", "e", false}, {"b", "x", false}, {"d", "e", false}, {"d", "d\x00", false}, {"c", "f", false}, {"e", "x", true}, {"w", "y", false}, {"x", "y", false}, {"a", "z", false}, {"", "a", false},
		{"d", "d", true}, {"z", "a", true}, {"", "", true}, {"d", "c", true}, {"a\xff", "b", false}, {"", "\xff", false},
	} {
		if s.Covers(span{From: c.from, To: c.to}) != c.want {
			t.Errorf("Covers(%q, %q) is %v", c.from, c.to, !c.want)
		}
	}
}

func some(random *rand.Rand) []span {
	l := texts()
	var all []span
	for range random.Intn(6) {
		i, j := random.Intn(len(l)), random.Intn(len(l))
		if i > j && random.Intn(4) > 0 {
			i, j = j, i
		}
		all = append(all, span{From: l[i], To: l[j]})
	}
	return all
}

// P46.1: sets of any spans, against all texts about which is asked.
func TestAgainstModels(t *testing.T) {
	random := rand.New(rand.NewSource(46))
	keys := texts()
	for range 5000 {
		l, k := some(random), some(random)
		a, b := spans.Of(l...), spans.Of(k...)
		inA, inB := func(key string) bool { return within(l, key) }, func(key string) bool { return within(k, key) }
		against(t, a, inA)
		against(t, spans.Join(a, b), func(key string) bool { return inA(key) || inB(key) })
		against(t, spans.Meet(a, b), func(key string) bool { return inA(key) && inB(key) })
		against(t, spans.Less(a, b), func(key string) bool { return inA(key) && !inB(key) })
		same := true
		for _, key := range keys { // each text where a span begins, or ends, is asked about: two sets that differ do at one of these
			same = same && inA(key) == inB(key)
		}
		if spans.Same(a, b) != same || !spans.Same(a, spans.Of(slices.Concat(l, a.All())...)) || !spans.Same(spans.Join(spans.Less(a, b), spans.Meet(a, b)), a) {
			t.Fatalf("Same of %v and %v is %v", l, k, !same)
		}
		for _, x := range some(random) {
			covers := true
			for _, key := range keys {
				covers = covers && (!x.Has(key) || inA(key))
			}
			if a.Covers(x) != covers {
				t.Fatalf("%v covers %v: %v", l, x, !covers)
			}
		}
		against(t, a, inA)
		against(t, b, inB)
	}
}

// P2, rule 5: what is answered is new.
func TestAnswersAreNew(t *testing.T) {
	l := row("a", "c", "e", "g")
	s := spans.Of(l...)
	l[0] = span{From: "x", To: "z"}
	all := s.All()
	all[0] = span{From: "x", To: "z"}
	_ = append(all[:1], span{From: "x", To: "z"})
	for _, other := range []spans.Set{spans.Join(s, spans.Set{}), spans.Meet(s, s), spans.Less(s, spans.Set{}), spans.Join(s, spans.Of(row("b", "f")...))} {
		clear(other.All())
	}
	if !slices.Equal(s.All(), row("a", "c", "e", "g")) {
		t.Error("the set became", s.All())
	}
}

// P1: many spans end, too.
func TestMany(t *testing.T) {
	name := func(n int) string { return string([]byte{byte(n >> 16), byte(n >> 8), byte(n)}) }
	var l, k []span
	for i := range 100000 {
		l = append(l, span{From: name(4 * i), To: name(4*i + 2)})
		k = append(k, span{From: name(4*i + 1), To: name(4*i + 4)})
	}
	a, b := spans.Of(l...), spans.Of(k...)
	if n := len(spans.Meet(a, b).All()); n != 100000 {
		t.Error("both have", n)
	}
	if n := len(spans.Join(a, b).All()); n != 1 {
		t.Error("one of them has", n)
	}
	if n := len(spans.Less(a, b).All()); n != 100000 {
		t.Error("just the first has", n)
	}
}
