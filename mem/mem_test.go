package mem_test

import (
	"cmp"
	"math"
	"math/bits"
	"math/rand"
	"slices"
	"testing"

	"cenotaph/api"
	"cenotaph/mem"
	"cenotaph/mut"
)

func at(phys, logic, who int) api.Stamp { return api.Stamp{Phys: phys, Logic: logic, Who: who} }

func put(key, val string, phys int) api.Mut {
	return api.Mut{Table: api.Last, Kind: api.Put, Key: key, Val: val, At: at(phys, 0, 0)}
}

func wipe(key, end string, phys int) api.Mut {
	return api.Mut{Table: api.Last, Kind: api.Wipe, Key: key, End: end, At: at(phys, 0, 0)}
}

func sib(key, val string, phys int, over ...api.Stamp) api.Mut {
	return api.Mut{Table: api.Causal, Kind: api.Put, Key: key, Val: val, At: at(phys, 0, 0), Over: over}
}

// tree: a tree of mutations, put one by one.
func tree(l ...api.Mut) *mem.Tree {
	t := &mem.Tree{}
	for _, m := range l {
		t.Put(m)
	}
	return t
}

func same(a, b []api.Mut) bool { return slices.EqualFunc(a, b, mut.Same) }

// P13.1: by keys first, then by what layer 7 goes by.
func TestCompare(t *testing.T) {
	rising := []api.Mut{{}, {At: at(-1, 0, 0), Key: "A"}, put("a", "v", 1), put("a", "w", 1), sib("a", "v", 1), sib("a", "v", 1, at(0, 0, 1)), put("a", "v", 2), put("aa", "v", 1), put("b", "v", 1), put("b", "v", math.MaxInt), put("\xff", "", math.MinInt)}
	for i, a := range rising {
		for j, b := range rising {
			if c := mem.Compare(a, b); c != cmp.Compare(i, j) {
				t.Errorf("Compare of %v and %v is %d", a, b, c)
			}
		}
	}
}

// P13.1: each that may be is there once; others aren't.
func TestPut(t *testing.T) {
	x := &mem.Tree{}
	wide, odd := wipe("a", "c", 1), put("a", "v", 1)
	odd.Table = 3
	for _, c := range []struct {
		m    api.Mut
		more bool
		len  int
	}{
		{put("b", "v", 1), true, 1}, {put("b", "v", 1), false, 1}, {put("b", "v", 2), true, 2}, {put("b", "w", 1), true, 3}, {sib("b", "v", 1), true, 4}, {sib("b", "v", 3, at(1, 0, 0)), true, 5}, {sib("b", "v", 3, at(2, 0, 0)), true, 6}, {sib("b", "v", 3, at(1, 0, 0)), false, 6}, {put("a", "v", 1), true, 7}, {wide, true, 8}, {wipe("a", "b", 1), true, 9}, {wide, false, 9}, {put("b", "v", 1), false, 9},
		{api.Mut{}, false, 9}, {put("", "v", 1), false, 9}, {put("1", "v", 1), false, 9}, {put("a", "\xff", 1), false, 9}, {put("a", "v", 0), false, 9}, {put("a", "v", -1), false, 9}, {wipe("b", "a", 1), false, 9}, {sib("a", "v", 1, at(1, 0, 0)), false, 9}, {odd, false, 9},
	} {
		if more := x.Put(c.m); more != c.more || x.Len() != c.len {
			t.Errorf("Put of %v: %v, Len %d", c.m, more, x.Len())
		}
	}
	want := []api.Mut{put("a", "v", 1), wipe("a", "b", 1), wide, put("b", "v", 1), put("b", "w", 1), sib("b", "v", 1), put("b", "v", 2), sib("b", "v", 3, at(1, 0, 0)), sib("b", "v", 3, at(2, 0, 0))}
	if l := slices.Collect(x.All()); !same(l, want) {
		t.Error("All is", l)
	}
}

// P13.1: from a key on, and of a key.
func TestFromAndKey(t *testing.T) {
	l := []api.Mut{put("a", "v", 1), put("b", "v", 1), sib("b", "w", 2), put("b", "v", 9), put("ba", "v", 1), put("c", "v", 7)}
	x := tree(l[5], l[2], l[0], l[4], l[3], l[1])
	for _, c := range []struct {
		key      string
		from, to int
		own      []api.Mut
	}{
		{"", 0, 6, nil}, {"A", 0, 6, nil}, {"a", 0, 6, l[:1]}, {"a\x00", 1, 6, nil}, {"b", 1, 6, l[1:4]}, {"b\x00", 4, 6, nil}, {"ba", 4, 6, l[4:5]}, {"bb", 5, 6, nil}, {"c", 5, 6, l[5:]}, {"c\x00", 6, 6, nil}, {"\xff", 6, 6, nil},
	} {
		if got := slices.Collect(x.From(c.key)); !same(got, l[c.from:c.to]) {
			t.Errorf("From(%q) goes through %v", c.key, got)
		}
		if got := x.Key(c.key); !same(got, c.own) {
			t.Errorf("Key(%q) is %v", c.key, got)
		}
	}
}

// P13.1, rule 8: what is gone through may be left, and gone through again: then what is there then.
func TestGoneThroughAgain(t *testing.T) {
	x := tree(put("b", "v", 1), put("c", "v", 1))
	all, from := x.All(), x.From("b")
	for range 2 {
		for m := range all {
			if m.Key != "b" {
				t.Error("the first one is", m)
			}
			break
		}
		if n := len(slices.Collect(from)); n != 2 {
			t.Error("there are", n)
		}
	}
	x.Put(put("d", "v", 1))
	x.Put(put("a", "v", 1))
	if n := len(slices.Collect(all)); n != 4 {
		t.Error("of all there are", n)
	}
	if n := len(slices.Collect(from)); n != 3 {
		t.Error("from b on there are", n)
	}
	n := 0
	for m := range x.All() { // it ends, though each time there is one more
		n++
		x.Put(put(m.Key+"x", "v", 1))
		x.Put(put(m.Key, "v", 10+n))
	}
	if n != 4 || x.Len() != 12 {
		t.Errorf("it went through %d, and there are %d", n, x.Len())
	}
}

// P13.1: a tree of nothing.
func TestNothing(t *testing.T) {
	var x mem.Tree
	if x.Len() != 0 || x.Deep() != 0 || len(x.Key("")) != 0 || len(x.Key("a")) != 0 || len(slices.Collect(x.All())) != 0 || len(slices.Collect(x.From("a"))) != 0 {
		t.Error("there is something of nothing")
	}
}

// key: a number as a key, all of one length, so that they stand as numbers do.
func key(n int) string {
	b := []byte("kaaaaaaa")
	for i := len(b) - 1; i > 0; i, n = i-1, n/26 {
		b[i] = byte('a' + n%26)
	}
	return string(b)
}

// bounds holds a tree's depth against what P13.1 says of it.
func bounds(t *testing.T, x *mem.Tree) {
	t.Helper()
	if d := x.Deep(); d > x.Len() || d < bits.Len(uint(x.Len())) {
		t.Fatalf("of %d mutations it is %d deep", x.Len(), d)
	}
}

// P13.1, P1: mutations that come in their order, backwards, or from both ends: it isn't much deeper than it must be.
func TestDeep(t *testing.T) {
	for name, place := range map[string]func(i int) int{
		"rising":         func(i int) int { return i },
		"falling":        func(i int) int { return 99999 - i },
		"from both ends": func(i int) int { return i%2*(99999-2*i) + i },
		"to the middle":  func(i int) int { return 50000 + (i%2*2-1)*(50000-i/2) },
	} {
		x := &mem.Tree{}
		for i := range 20000 {
			x.Put(put(key(place(i)), "v", 1))
			bounds(t, x)
		}
		if x.Len() != 20000 || x.Deep() > 21 {
			t.Errorf("%s: of %d mutations it is %d deep", name, x.Len(), x.Deep())
		}
		if l := slices.Collect(x.All()); len(l) != 20000 || !slices.IsSortedFunc(l, mem.Compare) {
			t.Errorf("%s: it goes through %d", name, len(l))
		}
	}
	for n, want := range []int{0, 1, 2, 2, 3} {
		x := &mem.Tree{}
		for i := range n {
			x.Put(put(key(i), "v", 1))
		}
		if x.Deep() != want {
			t.Errorf("of %d mutations it is %d deep", n, x.Deep())
		}
	}
}

// P13.1: any mutations, against rows that are put in order.
func TestAgainstRows(t *testing.T) {
	random := rand.New(rand.NewSource(13))
	for range 300 {
		x, l := &mem.Tree{}, []api.Mut(nil)
		for range random.Intn(60) {
			m := put(key(random.Intn(8)), "v", random.Intn(5))
			if random.Intn(3) == 0 {
				m = sib(m.Key, "v", 1+random.Intn(3), at(random.Intn(3), 0, 1))
			}
			is := slices.ContainsFunc(l, func(o api.Mut) bool { return mut.Same(o, m) })
			if x.Put(m) != (mut.Right(m) && !is) {
				t.Fatalf("to %v %v was put, or not", l, m)
			}
			if mut.Right(m) && !is {
				l = append(l, m)
				slices.SortFunc(l, mem.Compare)
			}
			if x.Len() != len(l) || !same(slices.Collect(x.All()), l) {
				t.Fatalf("of %v there are %v", l, slices.Collect(x.All()))
			}
			bounds(t, x)
		}
		for i := range 9 {
			own := slices.DeleteFunc(slices.Clone(l), func(m api.Mut) bool { return m.Key != key(i) })
			from := slices.DeleteFunc(slices.Clone(l), func(m api.Mut) bool { return m.Key < key(i) })
			if !same(x.Key(key(i)), own) || !same(slices.Collect(x.From(key(i))), from) {
				t.Fatalf("of %v there are %v of %q, and from there on %v", l, x.Key(key(i)), key(i), slices.Collect(x.From(key(i))))
			}
		}
	}
}

// Rule 5: what is handed in isn't kept, and what is told is new memory.
func TestAnswersAreNew(t *testing.T) {
	m := sib("k", "v", 9, at(1, 0, 0), at(2, 0, 0))
	x := tree(m)
	m.Over[0] = at(7, 7, 7)
	for m := range x.All() {
		m.Over[1] = at(7, 7, 7)
	}
	for m := range x.From("k") {
		m.Over[0] = at(7, 7, 7)
	}
	l := x.Key("k")
	l[0].Over[0] = at(7, 7, 7)
	if l := x.Key("k"); !same(l, []api.Mut{sib("k", "v", 9, at(1, 0, 0), at(2, 0, 0))}) {
		t.Error("it became", l)
	}
	y := *x
	y.Put(put("a", "v", 1))
	if x.Len() != 1 || len(slices.Collect(x.All())) != 1 || y.Len() != 2 {
		t.Error("two trees are one")
	}
}
