package quorum_test

import (
	"math"
	"math/big"
	"math/bits"
	"math/rand"
	"testing"

	"cenotaph/api"
	"cenotaph/quorum"
)

var levels = []api.Level{api.One, api.Quorum, api.All, 0, 4, -1, math.MaxInt, math.MinInt}

// P32.1: how many a level needs.
func TestNeed(t *testing.T) {
	for copies, want := range map[int][3]int{
		1: {1, 1, 1}, 2: {1, 2, 2}, 3: {1, 2, 3}, 4: {1, 3, 4}, 5: {1, 3, 5}, 6: {1, 4, 6}, 7: {1, 4, 7}, math.MaxInt: {1, 1 << 62, math.MaxInt},
	} {
		for i, l := range levels {
			n, ok := quorum.Need(l, copies)
			if i < 3 && (n != want[i] || !ok) || i >= 3 && (n != 0 || ok) {
				t.Errorf("Need(%d, %d) is %d, %v", l, copies, n, ok)
			}
		}
	}
	for _, copies := range []int{0, -1, -5, math.MinInt} {
		for _, l := range levels {
			if n, ok := quorum.Need(l, copies); n != 0 || ok {
				t.Errorf("Need(%d, %d) is %d, %v", l, copies, n, ok)
			}
		}
	}
}

// meets: do any so many of these copies, and any so many others, have one together? Each choice is held against each.
func meets(first, second, copies int) bool {
	for a := range 1 << copies {
		for b := range 1 << copies {
			if bits.OnesCount(uint(a)) == first && bits.OnesCount(uint(b)) == second && a&b == 0 {
				return false
			}
		}
	}
	return true
}

// P32.1: which levels meet.
func TestMeets(t *testing.T) {
	for copies := -1; copies <= 7; copies++ {
		for _, a := range levels {
			for _, b := range levels {
				first, one := quorum.Need(a, copies)
				second, other := quorum.Need(b, copies)
				want := one && other && meets(first, second, copies)
				if quorum.Meets(a, b, copies) != want {
					t.Errorf("Meets(%d, %d, %d) is %v", a, b, copies, !want)
				}
			}
		}
	}
	most := math.MaxInt
	if !quorum.Meets(api.All, api.All, most) || !quorum.Meets(api.Quorum, api.Quorum, most) || !quorum.Meets(api.All, api.One, most) || quorum.Meets(api.One, api.Quorum, most) || quorum.Meets(api.One, api.One, most) {
		t.Error("of as many copies as can be")
	}
	for _, copies := range []int{0, -1, math.MinInt} {
		if quorum.Meets(api.All, api.All, copies) {
			t.Error("of", copies, "copies")
		}
	}
}

// P32.2: an operation's answers, one by one.
func TestCount(t *testing.T) {
	c := quorum.New(2, 3)
	state := func(yes bool, first api.Errno, no bool) {
		t.Helper()
		if why, is := c.No(); c.Yes() != yes || why != first || is != no {
			t.Errorf("Yes is %v, No is %v, %v", c.Yes(), why, is)
		}
	}
	state(false, api.OK, false)
	if !c.Say(4, api.ErrStale) {
		t.Error("the first answer doesn't count")
	}
	state(false, api.ErrStale, false)
	if c.Say(4, api.OK) || c.Say(4, api.ErrStale) {
		t.Error("a second answer counts")
	}
	state(false, api.ErrStale, false)
	if !c.Say(0, api.OK) {
		t.Error("the second node's doesn't count")
	}
	state(false, api.ErrStale, false)
	if !c.Say(2, api.ErrQuar) {
		t.Error("the third node's doesn't count")
	}
	state(false, api.ErrStale, true)
	for node, want := range map[int][2]bool{-1: {}, 0: {true, true}, 1: {}, 2: {true, false}, 3: {}, 4: {true, false}, 5: {}, math.MinInt: {}, math.MaxInt: {}} {
		if said, ok := c.Said(node); said != want[0] || ok != want[1] {
			t.Errorf("Said(%d) is %v, %v", node, said, ok)
		}
	}
	if !c.Say(1, api.OK) { // more answer than there are copies: they count
		t.Error("the fourth node's doesn't count")
	}
	state(true, api.ErrStale, false)
}

// P32.2: answers of none of the nodes.
func TestSayOfNoNode(t *testing.T) {
	c := quorum.New(1, 1)
	for _, node := range []int{-1, 5, 6, math.MinInt, math.MaxInt} {
		if c.Say(node, api.OK) || c.Say(node, api.ErrDown) {
			t.Errorf("Say(%d) counts", node)
		}
		if said, ok := c.Said(node); said || ok {
			t.Errorf("Said(%d) is %v, %v", node, said, ok)
		}
	}
	if why, no := c.No(); c.Yes() || why != api.OK || no {
		t.Error(why, no)
	}
}

// P32.2: any answers of any counts, against the promise's words with great numbers.
func TestCountAgainstWords(t *testing.T) {
	random := rand.New(rand.NewSource(32))
	numbers := []int{math.MinInt, math.MinInt + 1, math.MinInt + 4, -2, -1, 0, 1, 2, 3, 4, 5, 6, 7, math.MaxInt - 5, math.MaxInt - 4, math.MaxInt - 1, math.MaxInt}
	errors := []api.Errno{api.OK, api.OK, api.ErrStale, api.ErrVoid, -1, math.MaxInt}
	for range 200000 {
		need, copies := numbers[random.Intn(len(numbers))], numbers[random.Intn(len(numbers))]
		c := quorum.New(need, copies)
		said := map[int]api.Errno{}
		right, wrong, first := 0, 0, api.OK
		for range random.Intn(9) {
			node, why := random.Intn(8)-1, errors[random.Intn(len(errors))]
			_, before := said[node]
			counts := node >= 0 && node < 5 && !before
			if c.Say(node, why) != counts {
				t.Fatalf("Say(%d, %v) is %v", node, why, !counts)
			}
			if !counts {
				continue
			}
			said[node] = why
			if why == api.OK {
				right++
			} else {
				wrong++
				if first == api.OK {
					first = why
				}
			}
		}
		rest := big.NewInt(int64(copies))
		fewer := rest.Sub(rest, big.NewInt(int64(wrong))).Cmp(big.NewInt(int64(need))) < 0
		why, no := c.No()
		if c.Yes() != (right >= need) || why != first || no != (right < need && fewer) {
			t.Fatalf("%d of %d, %v: Yes %v, No %v, %v", need, copies, said, c.Yes(), why, no)
		}
		for node := range 5 {
			want, is := said[node]
			if got, ok := c.Said(node); got != is || ok != (is && want == api.OK) {
				t.Fatalf("Said(%d) is %v, %v", node, got, ok)
			}
		}
	}
}
