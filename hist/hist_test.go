package hist_test

import (
	"math"
	"math/bits"
	"math/rand"
	"slices"
	"testing"

	"cenotaph/api"
	"cenotaph/hist"
	"cenotaph/nums"
)

// P44.1: the bucket of numbers, and the bounds of buckets, against one another.
func TestBucketAndBounds(t *testing.T) {
	for n, want := range map[int]int{math.MinInt: 0, -7: 0, -1: 0, 0: 0, 1: 1, 2: 2, 3: 2, 4: 3, 7: 3, 8: 4, 1<<21 - 1: 21, 1 << 21: 22, 1<<22 - 1: 22, 1 << 22: 23, 1<<23 - 1: 23, 1 << 23: 23, api.MaxPhys: 23, api.MaxPhys + 1: 23, math.MaxInt: 23} {
		if i := hist.Bucket(n); i != want {
			t.Errorf("Bucket(%d) is %d", n, i)
		}
	}
	if hist.Buckets != 24 {
		t.Fatal(hist.Buckets)
	}
	next := 0
	for i := range hist.Buckets {
		least, greatest, ok := hist.Bounds(i)
		if !ok || least != next || greatest < least || hist.Bucket(least) != i || hist.Bucket(greatest) != i {
			t.Errorf("Bounds(%d): %d, %d, %v", i, least, greatest, ok)
		}
		next = greatest + 1
	}
	if next != api.MaxPhys+1 {
		t.Error("the last bucket ends ahead of", next)
	}
	for _, i := range []int{-1, 24, 25, math.MaxInt, math.MinInt} {
		if least, greatest, ok := hist.Bounds(i); least != 0 || greatest != 0 || ok {
			t.Errorf("Bounds(%d): %d, %d, %v", i, least, greatest, ok)
		}
	}
}

// P44.1: numbers, counted.
func TestOf(t *testing.T) {
	for _, c := range []struct {
		l    []int
		want hist.Hist
	}{
		{nil, hist.Hist{}}, {[]int{0, 1, 5, 7}, hist.Hist{0: 1, 1: 1, 3: 2}}, {[]int{-1, math.MinInt, 0}, hist.Hist{0: 3}}, {[]int{math.MaxInt, 1 << 22, api.MaxPhys, 1<<22 - 1}, hist.Hist{22: 1, 23: 3}},
	} {
		if h := hist.Of(c.l...); h != c.want {
			t.Errorf("Of(%v) is %v", c.l, h)
		}
	}
}

// odd: counts that no numbers have: below 0, and beyond layer 2's.
func odd() []hist.Hist {
	return []hist.Hist{{}, {3: -1}, {0: -5, 3: 2, 7: math.MinInt}, {1: nums.Most, 2: 1, 3: 7}, {1: math.MaxInt, 2: math.MaxInt, 23: math.MaxInt}, {0: 1, 5: nums.Most + 1, 6: -nums.Most}, {4: nums.Most - 1, 5: -9, 6: 1, 7: 1}}
}

// P44.2: how many there are; those below 0 count as none, and sums are at most Most.
func TestLen(t *testing.T) {
	for i, want := range []int{0, 0, 2, nums.Most, nums.Most, nums.Most, nums.Most} {
		if n := odd()[i].Len(); n != want {
			t.Errorf("Len of %v is %d", odd()[i], n)
		}
	}
	if n := hist.Of(1, 2, 3, -4, 0).Len(); n != 5 {
		t.Error("there are", n)
	}
	if n := (hist.Hist{0: -1, 3: nums.Most - 1}).Len(); n != nums.Most-1 {
		t.Error("there are", n)
	}
}

// P44.2: the buckets that have some, which may be left, and gone through again.
func TestSome(t *testing.T) {
	h := hist.Hist{0: 2, 1: 0, 2: -3, 5: 1, 9: math.MinInt, 23: math.MaxInt}
	some := h.Some()
	h[5] = 7 // what is gone through is the value of which it was asked
	for range 2 {
		var l []int
		for i, n := range some {
			l = append(l, i, n)
		}
		if !slices.Equal(l, []int{0, 2, 5, 1, 23, math.MaxInt}) {
			t.Error("it goes through", l)
		}
		for i, n := range some {
			if i != 0 || n != 2 {
				t.Error("the first one is", i, n)
			}
			break
		}
	}
	for i, n := range (hist.Hist{3: -1}).Some() {
		t.Error("of none there are", i, n)
	}
}

// P44.2: shares of a hundred.
func TestShare(t *testing.T) {
	few := hist.Of(0, 1, 5, 7)
	thirds := hist.Hist{2: 1, 4: 1, 6: 1}
	most := hist.Hist{1: nums.Most / 200, 2: 1, 3: nums.Most}
	for _, c := range []struct {
		h             hist.Hist
		percent, want int
	}{
		{few, 50, 1}, {few, 51, 7}, {few, 49, 1}, {few, 25, 0}, {few, 26, 1}, {few, 1, 0}, {few, 0, 0}, {few, 75, 7}, {few, 100, 7}, {few, 101, 7}, {few, math.MaxInt, 7}, {few, -1, 0}, {few, math.MinInt, 0},
		{thirds, 0, 3}, {thirds, -7, 3}, {thirds, -4e18, 3}, {thirds, 4e18, 63}, {thirds, 1, 3}, {thirds, 33, 3}, {thirds, 34, 15}, {thirds, 66, 15}, {thirds, 67, 63}, {thirds, 100, 63}, {thirds, 200, 63},
		{hist.Hist{}, 50, 0}, {hist.Hist{}, 0, 0}, {hist.Hist{4: -1}, 100, 0}, {hist.Hist{3: -9, 4: 1}, 1, 15}, {hist.Hist{23: 1}, 100, api.MaxPhys}, {hist.Hist{22: 1}, 0, 1<<22 - 1},
		{most, 100, 1}, {most, 1, 1}, {hist.Hist{1: nums.Most/200 - 1, 2: 1, 3: nums.Most}, 100, 3}, {hist.Hist{1: nums.Most/200 - 2, 2: 1, 3: nums.Most}, 100, 7}, {hist.Hist{1: 1, 2: math.MaxInt, 3: math.MaxInt}, 100, 3}, {hist.Hist{1: nums.Most/400 + 1, 3: math.MaxInt}, 50, 1}, {hist.Hist{1: nums.Most / 400, 3: math.MaxInt}, 50, 7},
	} {
		if n := c.h.Share(c.percent); n != c.want {
			t.Errorf("Share(%d) of %v is %d", c.percent, c.h, n)
		}
	}
}

// P44.2: shares, against the numbers in their order.
func TestShareAgainstNumbers(t *testing.T) {
	random := rand.New(rand.NewSource(44))
	for range 5000 {
		var l []int
		for range 1 + random.Intn(30) {
			l = append(l, random.Intn(1<<30)>>random.Intn(31))
		}
		h := hist.Of(l...)
		slices.Sort(l)
		for percent := range 101 {
			n := (len(l)*percent + 99) / 100 // so many, of the least ones
			_, want, _ := hist.Bounds(min(bits.Len(uint(l[max(n, 1)-1])), 23))
			if got := h.Share(percent); got != want {
				t.Fatalf("Share(%d) of %v is %d", percent, l, got)
			}
		}
	}
}

// P44.2: both together, and as a line.
func TestJoinAndLine(t *testing.T) {
	for _, c := range []struct {
		a, b, want hist.Hist
		line       string
	}{
		{hist.Hist{}, hist.Hist{}, hist.Hist{}, ""}, {hist.Of(0, 1, 5, 7), hist.Hist{}, hist.Hist{0: 1, 1: 1, 3: 2}, "0:1 1:1 3:2"}, {hist.Of(1, 5), hist.Of(6, 100, -1), hist.Hist{0: 1, 1: 1, 3: 2, 7: 1}, "0:1 1:1 3:2 7:1"},
		{hist.Hist{3: -5, 4: -1, 5: 2}, hist.Hist{3: 2, 4: -2, 5: -2}, hist.Hist{3: 2, 5: 2}, "3:2 5:2"}, {hist.Hist{1: nums.Most, 2: nums.Most - 1, 23: math.MaxInt}, hist.Hist{1: 1, 2: 1, 22: math.MaxInt, 23: math.MinInt}, hist.Hist{1: nums.Most, 2: nums.Most, 22: nums.Most, 23: nums.Most}, "1:1125899906842624 2:1125899906842624 22:1125899906842624 23:1125899906842624"},
	} {
		a, b := c.a, c.b
		if h := hist.Join(a, b); h != c.want || h.Line() != c.line || hist.Join(b, a) != c.want {
			t.Errorf("Join of %v and %v is %v: %q", c.a, c.b, h, h.Line())
		}
		if a != c.a || b != c.b {
			t.Error("what was handed in is another one")
		}
	}
	if s := (hist.Hist{2: math.MaxInt, 3: -1, 10: nums.Most + 1}).Line(); s != "2:1125899906842624 10:1125899906842624" {
		t.Error("the line is", s)
	}
}
