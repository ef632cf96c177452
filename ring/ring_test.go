package ring_test

import (
	"math"
	"math/big"
	"slices"
	"strings"
	"testing"

	"cenotaph/api"
	"cenotaph/ring"
)

func open(t *testing.T, nodes, copies int, starts ...string) *ring.Ring {
	t.Helper()
	r, why := ring.New(nodes, copies, starts...)
	if why != api.OK || r == nil {
		t.Fatalf("New(%d, %d, %q): %v", nodes, copies, starts, why)
	}
	return r
}

// P20.1: which rings may be.
func TestNew(t *testing.T) {
	long := strings.Repeat("a", api.MaxKey)
	for _, c := range []struct {
		nodes, copies int
		starts        []string
		ok            bool
	}{
		{1, 1, nil, true}, {5, 5, nil, true}, {5, 1, nil, true}, {3, 2, []string{"m"}, true}, {3, 2, []string{"a", "b", "c"}, true}, {2, 2, []string{}, true}, {4, 3, []string{"Z", "a", "\u00e9"}, true}, {2, 1, []string{"a", "a-", "a0"}, true}, {2, 1, []string{long}, true},
		{0, 0, nil, false}, {0, 1, nil, false}, {-1, 1, nil, false}, {6, 1, nil, false}, {math.MaxInt, 1, nil, false}, {math.MinInt, math.MinInt, nil, false},
		{3, 0, nil, false}, {3, -1, nil, false}, {3, 4, nil, false}, {1, 2, nil, false}, {5, 6, nil, false}, {3, math.MaxInt, nil, false},
		{3, 2, []string{""}, false}, {3, 2, []string{"1"}, false}, {3, 2, []string{"a b"}, false}, {3, 2, []string{"a", "b\xff"}, false}, {3, 2, []string{long + "a"}, false}, {3, 2, []string{"a", ""}, false},
		{3, 2, []string{"a", "a"}, false}, {3, 2, []string{"b", "a"}, false}, {3, 2, []string{"a", "c", "b"}, false}, {3, 2, []string{"a", "b", "b"}, false}, {3, 2, []string{"a", "Z"}, false},
		{3, 2, []string{"a", "b", "c", "d"}, false}, {3, 2, many(1000), false},
	} {
		starts := slices.Clone(c.starts)
		r, why := ring.New(c.nodes, c.copies, starts...)
		if !c.ok {
			if r != nil || why != api.ErrRing {
				t.Errorf("New(%d, %d, %.40q): %v", c.nodes, c.copies, c.starts, why)
			}
			continue
		}
		if why != api.OK || r.Nodes() != c.nodes || r.Copies() != c.copies || r.Ranges() != len(c.starts)+1 {
			t.Errorf("New(%d, %d, %q): %v", c.nodes, c.copies, c.starts, why)
			continue
		}
		clear(starts) // the ring must not have kept them
		for i, s := range c.starts {
			if from, _, ok := r.Bounds(i + 1); from != s || !ok {
				t.Errorf("the range %d of %q begins at %q", i+1, c.starts, from)
			}
		}
	}
}

func many(n int) []string {
	var l []string
	for i := range n {
		l = append(l, strings.Repeat("a", i+1))
	}
	return l
}

// P20.1: which range a text is of, and where ranges begin and end.
func TestRangeAndBounds(t *testing.T) {
	r := open(t, 3, 2, "c", "m", "m-")
	for s, want := range map[string]int{"": 0, "a": 0, "bzzz": 0, "b\xff": 0, "C": 0, "\x00": 0, "c": 1, "c\x00": 1, "l": 1, "lz": 1, "m": 2, "m\x00": 2, "m,": 2, "m-": 3, "m-a": 3, "m0": 3, "z": 3, "\u00e9": 3, "\xff\xff": 3} {
		if i := r.Range(s); i != want {
			t.Errorf("Range(%q) is %d", s, i)
		}
	}
	for i, want := range map[int][2]string{0: {"", "c"}, 1: {"c", "m"}, 2: {"m", "m-"}, 3: {"m-", ""}} {
		if from, to, ok := r.Bounds(i); from != want[0] || to != want[1] || !ok {
			t.Errorf("Bounds(%d): %q, %q, %v", i, from, to, ok)
		}
	}
	for _, i := range []int{-1, 4, 5, math.MinInt, math.MaxInt} {
		if from, to, ok := r.Bounds(i); from != "" || to != "" || ok {
			t.Errorf("Bounds(%d): %q, %q, %v", i, from, to, ok)
		}
	}
	one := open(t, 1, 1)
	if from, to, ok := one.Bounds(0); from != "" || to != "" || !ok || one.Range("") != 0 || one.Range("\xff") != 0 {
		t.Error("a ring of one range")
	}
	if r = open(t, 3, 2, "m"); r.Range("k") != 0 || r.Range("m") != 1 {
		t.Error("the document's example")
	}
}

// P20.1: the range that has all of a span.
func TestSpan(t *testing.T) {
	r := open(t, 3, 2, "c", "m", "m-")
	for _, c := range []struct {
		from, to string
		want     int
		why      api.Errno
	}{
		{"a", "b", 0, api.OK}, {"a", "c", 0, api.OK}, {"A", "c", 0, api.OK}, {"c", "d", 1, api.OK}, {"c", "m", 1, api.OK}, {"l", "lz", 1, api.OK}, {"m", "m-", 2, api.OK}, {"m-", "m-a", 3, api.OK}, {"x", "\u00e9", 3, api.OK},
		{"a", "c-", 0, api.ErrSpan}, {"a", "z", 0, api.ErrSpan}, {"b", "m", 0, api.ErrSpan}, {"c", "m-", 0, api.ErrSpan}, {"l", "m-", 0, api.ErrSpan}, {"m", "m0", 0, api.ErrSpan}, {"a", "\u00e9", 0, api.ErrSpan},
		{"", "b", 0, api.ErrKey}, {"a", "", 0, api.ErrKey}, {"", "", 0, api.ErrKey}, {"1", "b", 0, api.ErrKey}, {"a", "b~", 0, api.ErrKey}, {"a", "b\xff", 0, api.ErrKey}, {"a\xff", "b", 0, api.ErrKey},
		{"a", "a", 0, api.ErrKey}, {"b", "a", 0, api.ErrKey}, {"d", "c", 0, api.ErrKey}, {"z", "a", 0, api.ErrKey}, {"c", "c", 0, api.ErrKey}, {"a", "z~", 0, api.ErrKey}, {"a", strings.Repeat("z", 25), 0, api.ErrKey},
	} {
		if i, why := r.Span(c.from, c.to); i != c.want || why != c.why {
			t.Errorf("Span(%q, %q) is %d, %v", c.from, c.to, i, why)
		}
	}
	if i, why := open(t, 1, 1).Span("A", "\u00e9"); i != 0 || why != api.OK {
		t.Error("of one range:", i, why)
	}
}

// place: a place by great numbers.
func place(s string, n int64) int64 {
	all := big.NewInt(1 << 32)
	x := new(big.Int).Mul(big.NewInt(n), big.NewInt(2654435769))
	x.Xor(x.Mod(x, all), big.NewInt(2166136261))
	for _, r := range []rune(s) {
		x.Mod(x.Mul(x.Xor(x, big.NewInt(int64(r))), big.NewInt(16777619)), all)
	}
	x.Xor(x, new(big.Int).Div(x, big.NewInt(65536)))
	x.Mod(x.Mul(x, big.NewInt(2246822507)), all)
	x.Xor(x, new(big.Int).Div(x, big.NewInt(8192)))
	return x.Int64()
}

// replicas: the nodes that one meets who goes round twice, from the first place on, and begins to look at a place.
func replicas(nodes, copies int, start string) []int {
	type seat struct {
		at   int64
		node int
	}
	var seats []seat
	for node := range nodes {
		for i := int64(1); i <= 4; i++ {
			at := place("node", 4*int64(node)+i)
			seats = append(seats, seat{at, node}, seat{at + 1<<32, node})
		}
	}
	slices.SortFunc(seats, func(a, b seat) int {
		if a.at != b.at {
			return int(a.at - b.at)
		}
		return a.node - b.node
	})
	var l []int
	for _, s := range seats {
		if s.at >= place(start, 0) && len(l) < copies && !slices.Contains(l, s.node) {
			l = append(l, s.node)
		}
	}
	return l
}

// P20.2: the nodes that have a range, worked out by hand, as many as there are copies.
func TestReplicas(t *testing.T) {
	for start, want := range map[string][]int{
		"": {4, 0, 3, 2, 1}, "a": {1, 4, 0, 3, 2}, "b": {3, 0, 2, 4, 1}, "c": {2, 3, 0, 4, 1}, "m": {0, 4, 3, 2, 1}, "k": {4, 0, 3, 2, 1}, "\u00e9": {4, 1, 0, 3, 2}, "Z-9_": {4, 1, 0, 3, 2}, "zzz": {3, 0, 2, 4, 1},
		// places near those of nodes: the last bits count
		"gf": {1, 2, 3, 0, 4}, "zl": {2, 0, 1, 3, 4}, "kef": {4, 3, 1, 0, 2}, "jif": {3, 2, 0, 1, 4}, "ngg": {0, 1, 2, 3, 4}, "kfi": {3, 2, 0, 1, 4}, "acl": {3, 2, 0, 1, 4}, "zvl": {1, 2, 3, 0, 4}, "jifs": {1, 4, 0, 3, 2}, "xidsb": {0, 1, 4, 3, 2}, "yxmjc": {1, 4, 0, 3, 2}, "qboop": {2, 3, 0, 4, 1}, "efwzw": {4, 3, 2, 0, 1},
	} {
		for nodes := 1; nodes <= 5; nodes++ {
			for copies := 1; copies <= nodes; copies++ {
				var first []int // fewer nodes come in the order of all
				for _, node := range want {
					if node < nodes && len(first) < copies {
						first = append(first, node)
					}
				}
				i, r := 0, open(t, nodes, copies)
				if start != "" {
					i, r = 1, open(t, nodes, copies, start)
				}
				if got := r.Replicas(i); !slices.Equal(got, first) || !slices.Equal(got, replicas(nodes, copies, start)) {
					t.Errorf("of %d nodes, %d copies, the range from %q: %v", nodes, copies, start, got)
				}
			}
		}
	}
}

// P20.2: a place that is a node's counts itself.
func TestReplicasFromPlacesOfNodes(t *testing.T) {
	for start, node := range map[string]int{"bjoqxrf": 3, "bordtvm": 0, "bxmbtnd": 4, "ezkjfmp": 1, "fxtouzz": 2, "ghmizgq": 2, "gnvbsvh": 0} {
		meets := false
		for i := range int64(4) {
			meets = meets || place(start, 0) == place("node", 4*int64(node)+i+1)
		}
		r := open(t, 5, 5, start)
		if got := r.Replicas(1); !meets || got[0] != node || !slices.Equal(got, replicas(5, 5, start)) {
			t.Errorf("the range from %q: %v, %v", start, got, meets)
		}
	}
}

// P20.2: many ranges, against the model; each node once; who has them.
func TestReplicasOfManyRanges(t *testing.T) {
	starts := []string{"a", "aa", "ab-", "b_9", "cenotaph", "d", "key", "m", "node", "q\u00e9", "x", "zz", "\u20ac", "\U0010ffff"}
	for n := 0; n+3 <= len(starts); n++ {
		for nodes := 1; nodes <= 5; nodes++ {
			for copies := 1; copies <= nodes; copies++ {
				r := open(t, nodes, copies, starts[n:n+3]...)
				for i, start := range append([]string{""}, starts[n:n+3]...) {
					want := replicas(nodes, copies, start)
					got := r.Replicas(i)
					if !slices.Equal(got, want) || len(got) != copies {
						t.Fatalf("of %d nodes, %d copies, the range from %q: %v, not %v", nodes, copies, start, got, want)
					}
					for node := -2; node < 8; node++ {
						if r.Has(node, i) != slices.Contains(want, node) {
							t.Fatalf("Has(%d, %d) is %v", node, i, r.Has(node, i))
						}
					}
				}
			}
		}
	}
}

// P20.2, rule 5: no range has no nodes; what is told is new.
func TestReplicasOfNoRange(t *testing.T) {
	r := open(t, 3, 3, "m")
	for _, i := range []int{-1, 2, 3, math.MinInt, math.MaxInt} {
		if l := r.Replicas(i); len(l) != 0 {
			t.Errorf("Replicas(%d): %v", i, l)
		}
		for _, node := range []int{-1, 0, 1, 2, 3, math.MinInt, math.MaxInt} {
			if r.Has(node, i) {
				t.Errorf("Has(%d, %d)", node, i)
			}
		}
	}
	for _, node := range []int{-1, 3, 5, math.MinInt, math.MaxInt} {
		if r.Has(node, 0) || r.Has(node, 1) {
			t.Errorf("Has(%d)", node)
		}
	}
	l := r.Replicas(0)
	was := slices.Clone(l)
	clear(l)
	if !slices.Equal(r.Replicas(0), was) {
		t.Error("what was told is the ring's own")
	}
}
