package trie_test

import (
	"maps"
	"math"
	"math/rand"
	"slices"
	"strings"
	"testing"

	"cenotaph/trie"
)

// model: texts and their numbers, with U+FFFD for each byte that begins no rune.
type model map[string]int

func runes(s string) string { return string([]rune(s)) }

// nodes: one more than there are texts, but the empty one, with which one begins.
func (m model) nodes() int {
	all := map[string]bool{"": true}
	for s := range m {
		for i := range s {
			all[s[:i]] = true
		}
		all[s] = true
	}
	return len(all)
}

func (m model) under(s string) []string {
	l := slices.Sorted(maps.Keys(m)) // in UTF-8 bytes stand as runes do
	return slices.DeleteFunc(l, func(x string) bool { return !strings.HasPrefix(x, runes(s)) })
}

func (m model) longest(s string) (string, int, bool) {
	best, found := "", false
	for x := range m {
		if strings.HasPrefix(runes(s), x) && len(x) >= len(best) {
			best, found = x, true
		}
	}
	return best, m[best], found
}

// texts: those about which is asked: of few runes of each length, and of bytes that begin none.
func texts() []string {
	parts := []string{"", "a", "b", "\u00e9", "\xff", "\ufffd", "\U0001f600", "\xc3", "\x00"}
	var l []string
	for _, a := range parts {
		for _, b := range parts {
			l = append(l, a+b, "a"+a+b, a+"a"+b)
		}
	}
	return append(l, "abcdef", "\xed\xa0\x80", "\xf4\x90\x80\x80")
}

// against holds all that a tree tells against a model.
func against(t *testing.T, x *trie.Trie, m model) {
	t.Helper()
	if x.Len() != len(m) || x.Nodes() != m.nodes() {
		t.Fatalf("%v: Len %d, Nodes %d, not %d", m, x.Len(), x.Nodes(), m.nodes())
	}
	for _, s := range texts() {
		want, is := m[runes(s)]
		if n, ok := x.Get(s); n != want || ok != is {
			t.Fatalf("%v: Get(%q) is %d, %v", m, s, n, ok)
		}
		best, of, found := m.longest(s)
		if b, n, ok := x.Longest(s); b != best || n != of || ok != found {
			t.Fatalf("%v: Longest(%q) is %q, %d, %v", m, s, b, n, ok)
		}
		var l []string
		for u, n := range x.Under(s) {
			if n != m[u] {
				t.Fatalf("%v: Under(%q) has %q at %d", m, s, u, n)
			}
			l = append(l, u)
		}
		if !slices.Equal(l, m.under(s)) {
			t.Fatalf("%v: Under(%q) goes through %q", m, s, l)
		}
	}
}

// P45.1: a tree that is told.
func TestTold(t *testing.T) {
	x, m := &trie.Trie{}, model{}
	against(t, x, m)
	for _, c := range []struct {
		s          string
		n          int
		had        bool
		len, nodes int
	}{
		{"ab", 1, false, 1, 3}, {"abc", 2, false, 2, 4}, {"ab", 7, true, 2, 4}, {"", math.MinInt, false, 3, 4}, {"", 0, true, 3, 4}, {"a", math.MaxInt, false, 4, 4}, {"\u00e9", 3, false, 5, 5}, {"\xff", 4, false, 6, 6}, {"\ufffd", 5, true, 6, 6}, {"a\xc3\xa9", 6, false, 7, 7}, {"a\xc3", 8, false, 8, 8}, {"b\x00\x00\x00", 9, false, 9, 12},
	} {
		if had := x.Put(c.s, c.n); had != c.had || x.Len() != c.len || x.Nodes() != c.nodes {
			t.Errorf("Put(%q): %v, Len %d, Nodes %d", c.s, had, x.Len(), x.Nodes())
		}
		m[runes(c.s)] = c.n
		against(t, x, m)
	}
	for _, c := range []struct {
		s          string
		had        bool
		len, nodes int
	}{
		{"zz", false, 9, 12}, {"b", false, 9, 12}, {"b\x00\x00\x00\x00", false, 9, 12}, {"ab", true, 8, 12}, {"ab", false, 8, 12}, {"abc", true, 7, 10}, {"", true, 6, 10}, {"", false, 6, 10}, {"\xfe", true, 5, 9}, {"\xff", false, 5, 9}, {"b\x00\x00\x00", true, 4, 5}, {"a\xc3\xa9", true, 3, 4}, {"a", true, 2, 4}, {"a\xc3", true, 1, 2}, {"\u00e9", true, 0, 1}, {"\u00e9", false, 0, 1}, {"", false, 0, 1},
	} {
		if had := x.Drop(c.s); had != c.had || x.Len() != c.len || x.Nodes() != c.nodes {
			t.Errorf("Drop(%q): %v, Len %d, Nodes %d", c.s, had, x.Len(), x.Nodes())
		}
		delete(m, runes(c.s))
		against(t, x, m)
	}
	x.Put("ab", 1)
	x.Put("abc", 2)
	if s, n, ok := x.Longest("abd"); s != "ab" || n != 1 || !ok || x.Nodes() != 4 {
		t.Error(s, n, ok)
	}
}

// P45.1: any calls, against a model.
func TestAgainstModels(t *testing.T) {
	random := rand.New(rand.NewSource(45))
	l := texts()
	for range 30 {
		x, m := &trie.Trie{}, model{}
		for range 60 {
			s := l[random.Intn(len(l))]
			_, had := m[runes(s)]
			if random.Intn(5) < 3 {
				n := random.Intn(100) - 50
				if x.Put(s, n) != had {
					t.Fatalf("%v: Put(%q) is %v", m, s, !had)
				}
				m[runes(s)] = n
			} else {
				if x.Drop(s) != had {
					t.Fatalf("%v: Drop(%q) is %v", m, s, !had)
				}
				delete(m, runes(s))
			}
			against(t, x, m)
		}
	}
}

// Rule 8: an iterator may be left, and goes through what is there then; it ends, whatever is done meanwhile.
func TestUnderMeanwhile(t *testing.T) {
	x := &trie.Trie{}
	for i, s := range []string{"b", "ab", "a", "ac"} {
		x.Put(s, i)
	}
	under := x.Under("a")
	for s, n := range under {
		if s != "a" || n != 2 {
			t.Error("the first one is", s, n)
		}
		break
	}
	x.Put("aa", 9)
	x.Drop("ab")
	var l []string
	for s := range under {
		l = append(l, s)
		x.Drop(s)
		x.Put(s+"z", 1)
		x.Put(s+"zz", 1)
	}
	if !slices.Equal(l, []string{"a", "aa", "ac"}) {
		t.Error("it went through", l)
	}
	l = nil
	for s := range under {
		l = append(l, s)
	}
	if !slices.Equal(l, []string{"aaz", "aazz", "acz", "aczz", "az", "azz"}) {
		t.Error("then it went through", l)
	}
}

// P1: long texts end, too, and many of them.
func TestLong(t *testing.T) {
	x := &trie.Trie{}
	long := strings.Repeat("a\xff", 1<<19)
	x.Put(long, 1)
	x.Put(long[:10], 2)
	if x.Nodes() != 1<<20+1 {
		t.Error("there are", x.Nodes())
	}
	if s, n, ok := x.Longest(long + "b"); s != runes(long) || n != 1 || !ok {
		t.Error("the longest one has", len(s), n, ok)
	}
	var l []int
	for _, n := range x.Under("a") {
		l = append(l, n)
	}
	if !slices.Equal(l, []int{2, 1}) {
		t.Error("it goes through", l)
	}
	if !x.Drop(long) || x.Nodes() != 11 || !x.Drop(long[:10]) || x.Nodes() != 1 {
		t.Error("there are", x.Nodes())
	}
	for i := range 50000 {
		x.Put(string(rune(0xe000+i)), i)
	}
	if x.Len() != 50000 || x.Nodes() != 50001 {
		t.Error("there are", x.Len(), x.Nodes())
	}
}
