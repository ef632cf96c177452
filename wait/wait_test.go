package wait_test

import (
	"math"
	"math/big"
	"testing"

	"cenotaph/wait"
)

var numbers = []int{math.MinInt, -5, -1, 0, 1, 2, 3, 4, 5, 7, 9, 28, 29, 30, 31, 32, 62, 63, 64, 100, 1000, 1<<20 + 1, 1<<30 - 1, 1 << 30, 1<<30 + 1, 1 << 31, 1 << 32, 1 << 40, 1<<40 + 1, 1 << 62, math.MaxInt - 1, math.MaxInt}

var seeds = []uint32{0, 1, 7, 12345, 1 << 31, math.MaxUint32}

// bounded: a number from one up to another one.
func bounded(n, least, most int) int {
	if n < least {
		return least
	}
	if n > most {
		return most
	}
	return n
}

// bound: a wait's bound, doubled step by step.
func bound(w wait.Wait, try int) int {
	first, most := bounded(w.First, 1, 1<<30), bounded(w.Most, 1, 1<<30)
	for try = bounded(try, 0, 1<<30); try > 0 && first < most; try-- {
		first += first
	}
	if first > most {
		return most
	}
	return first
}

// drawn: what is drawn for a try, by great numbers.
func drawn(seed uint32, try int) int {
	all := big.NewInt(1 << 32)
	x := big.NewInt(int64(bounded(try, 0, 1<<30) + 1))
	x.Add(x.Mul(x, big.NewInt(2654435769)), big.NewInt(int64(seed)))
	x.Mod(x, all)
	step := func(by, times int64) {
		x.Xor(x, new(big.Int).Div(x, big.NewInt(by)))
		x.Mod(x.Mul(x, big.NewInt(times)), all)
	}
	step(1<<16, 569420461)
	step(1<<15, 1935289751)
	step(1<<15, 1)
	return int(x.Int64())
}

// of: a wait by the promise's words.
func of(w wait.Wait, try int) int {
	b := bound(w, try)
	half := b / 2
	if b%2 == 1 {
		half++
	}
	return half + drawn(w.Seed, try)%(b-half+1)
}

// P48.1: bounds.
func TestBound(t *testing.T) {
	for _, c := range []struct {
		first, most, try, want int
	}{
		{2, 9, 0, 2}, {2, 9, 1, 4}, {2, 9, 2, 8}, {2, 9, 3, 9}, {2, 9, 5, 9}, {2, 9, -1, 2}, {2, 9, math.MinInt, 2}, {2, 9, math.MaxInt, 9},
		{1, 1 << 30, 30, 1 << 30}, {1, 1 << 30, 29, 1 << 29}, {1, 1<<30 - 1, 30, 1<<30 - 1}, {3, 1 << 30, 28, 3 << 28}, {3, 1 << 30, 29, 1 << 30}, {1 << 30, 1 << 30, math.MaxInt, 1 << 30}, {1, 1, 9, 1},
		{0, 0, 0, 1}, {0, 0, 9, 1}, {-7, 8, 2, 4}, {math.MinInt, math.MinInt, 3, 1}, {math.MaxInt, math.MaxInt, 0, 1 << 30}, {1<<30 + 1, 1 << 40, 0, 1 << 30}, {9, 4, 0, 4}, {9, -4, 2, 1}, {1, math.MaxInt, 64, 1 << 30},
	} {
		if b := (wait.Wait{First: c.first, Most: c.most, Seed: 3}).Bound(c.try); b != c.want {
			t.Errorf("Bound(%d) of %d up to %d is %d", c.try, c.first, c.most, b)
		}
	}
	if (wait.Wait{}).Bound(0) != 1 || (wait.Wait{}).Bound(99) != 1 {
		t.Error("the zero wait's bound")
	}
}

// P48.1: waits, worked out by hand.
func TestOf(t *testing.T) {
	tries := []int{-1, 0, 1, 2, 3, 4, 5, 30, 31, 1 << 30, 1<<30 + 1, math.MaxInt, math.MinInt}
	for _, c := range []struct {
		w    wait.Wait
		want []int
	}{
		{wait.Wait{First: 2, Most: 9}, []int{1, 1, 4, 5, 5, 8, 7, 8, 5, 8, 8, 8, 1}},
		{wait.Wait{First: 100, Most: 10000, Seed: 7}, []int{90, 90, 190, 278, 772, 1014, 2782, 7387, 9674, 5777, 5777, 5777, 90}},
		{wait.Wait{First: 1 << 30, Most: 1 << 30, Seed: math.MaxUint32}, []int{728898691, 728898691, 1072217389, 765634764, 614845568, 677014497, 985950457, 887000539, 808532567, 875503878, 875503878, 875503878, 728898691}},
		{wait.Wait{First: 3, Most: 1 << 30, Seed: 12345}, []int{3, 3, 4, 10, 18, 26, 68, 932000143, 827032760, 829438359, 829438359, 829438359, 3}},
		{wait.Wait{}, []int{1, 1, 1, 1, 1, 1, 1, 1, 1, 1, 1, 1, 1}},
	} {
		for i, try := range tries {
			if n := c.w.Of(try); n != c.want[i] {
				t.Errorf("Of(%d) of %v is %d, not %d", try, c.w, n, c.want[i])
			}
		}
	}
}

// P48.1: bounds and waits of all kinds of numbers, by the promise's words.
func TestAgainstWords(t *testing.T) {
	for _, first := range numbers {
		for _, most := range numbers {
			for i, try := range numbers {
				w := wait.Wait{First: first, Most: most, Seed: seeds[i%len(seeds)]}
				b, n := w.Bound(try), w.Of(try)
				if b != bound(w, try) || n != of(w, try) || 2*n < b || n > b || n < 1 {
					t.Fatalf("%v at the try %d: %d of %d, not %d of %d", w, try, n, b, of(w, try), bound(w, try))
				}
			}
		}
	}
	for _, seed := range seeds {
		w := wait.Wait{First: 3, Most: 70, Seed: seed}
		for try := range 500 {
			if w.Of(try) != of(w, try) {
				t.Fatalf("Of(%d) of %v is %d", try, w, w.Of(try))
			}
		}
	}
}

// through: the tries and their ticks by the promise's words, so many at most.
func through(w wait.Wait, from, to, most int) [][2]int {
	var l [][2]int
	at, end := bounded(from, 0, 1<<40), bounded(to, 0, 1<<40)
	for try := 0; at < end && try < most; try++ {
		l = append(l, [2]int{try, at})
		at += of(w, try)
	}
	return l
}

// P48.2: the tries and their ticks, and how many there are.
func TestAllAndTries(t *testing.T) {
	const most = 40
	for _, w := range []wait.Wait{{}, {First: 2, Most: 9}, {First: 5, Most: 5, Seed: 9}, {First: 100, Most: 1000, Seed: 77}, {First: 1 << 30, Most: 1 << 30, Seed: 5}, {First: 9, Most: 2, Seed: 1}, {First: -1, Most: math.MaxInt, Seed: 8}} {
		for _, from := range numbers {
			for _, to := range append([]int{from, from - 1, from + 1, from + 2, from + 40, from + 5000}, numbers...) {
				want := through(w, from, to, most+1)
				var got [][2]int
				for try, at := range w.All(from, to) {
					if got = append(got, [2]int{try, at}); len(got) > most {
						break
					}
				}
				if len(got) != len(want) {
					t.Fatalf("All(%d, %d) of %v has %d", from, to, w, len(got))
				}
				for i := range want {
					if got[i] != want[i] {
						t.Fatalf("All(%d, %d) of %v at %d: %v, not %v", from, to, w, i, got[i], want[i])
					}
				}
				for _, n := range []int{math.MinInt, -1, 0, 1, 2, 5, most - 1, most, most + 1} {
					if is := w.Tries(from, to, n); is != min(len(want), max(n, 0)) {
						t.Fatalf("Tries(%d, %d, %d) of %v is %d of %d", from, to, n, w, is, len(want))
					}
				}
			}
		}
	}
}

// P48.2: how many there are, without a bound that matters.
func TestTriesOfAll(t *testing.T) {
	for _, c := range []struct {
		w                    wait.Wait
		from, to, most, want int
	}{
		{wait.Wait{}, 0, 1 << 40, math.MaxInt, 1 << 40}, {wait.Wait{}, -9, math.MaxInt, math.MaxInt, 1 << 40}, {wait.Wait{First: 8, Most: 1}, 5, 1 << 40, math.MaxInt, 1<<40 - 5}, {wait.Wait{}, 0, 1 << 40, 1 << 39, 1 << 39}, {wait.Wait{}, 3, 4, math.MaxInt, 1}, {wait.Wait{}, 4, 4, math.MaxInt, 0},
		{wait.Wait{}, 1<<40 - 1, math.MaxInt, 9, 1}, {wait.Wait{}, 1 << 40, math.MaxInt, 9, 0}, {wait.Wait{First: 2, Most: 9}, 7, 7, 9, 0}, {wait.Wait{First: 2, Most: 9}, 8, 7, 9, 0}, {wait.Wait{First: 2, Most: 9}, math.MinInt, -1, 9, 0},
	} {
		if n := c.w.Tries(c.from, c.to, c.most); n != c.want {
			t.Errorf("Tries(%d, %d, %d) of %v is %d", c.from, c.to, c.most, c.w, n)
		}
	}
	for _, w := range []wait.Wait{{First: 1, Most: 2, Seed: 3}, {First: 100, Most: 1 << 30}, {First: 7, Most: 300, Seed: 1}} {
		to := 1 << 20
		if n := w.Tries(0, to, math.MaxInt); n != len(through(w, 0, to, to)) {
			t.Errorf("Tries of %v is %d", w, n)
		}
	}
}

// P48.2: the tries that come behind the last one that is drawn in its own way are alike, so that all of them are counted soon.
func TestTriesBeyondThoseThatAreDrawn(t *testing.T) {
	if testing.Short() {
		t.Skip("goes through 2^30 tries")
	}
	const last, at, each = 1 << 30, 1610607951, 1 // the tick of that try, and its wait, were found one by one
	want := last + (1<<40-at+each-1)/each
	if n := (wait.Wait{First: 1, Most: 2, Seed: 3}).Tries(0, 1<<40, math.MaxInt); n != want {
		t.Errorf("Tries is %d, not %d", n, want)
	}
}

// Rule 8: an iterator may be left, gone through again, and within itself.
func TestAllAgain(t *testing.T) {
	w := wait.Wait{First: 2, Most: 9, Seed: 4}
	all := w.All(3, 60)
	w.Seed = 99
	want := through(wait.Wait{First: 2, Most: 9, Seed: 4}, 3, 60, 60)
	for n := range 3 {
		i := 0
		for try, at := range all {
			if want[i] != [2]int{try, at} {
				t.Fatalf("the %d time at %d: %d, %d", n, i, try, at)
			}
			inner := 0
			for range all {
				inner++
			}
			if inner != len(want) {
				t.Fatalf("within itself there are %d", inner)
			}
			if i++; n == 0 && i == 2 {
				break
			}
		}
		if n > 0 && i != len(want) {
			t.Fatalf("the %d time there are %d", n, i)
		}
	}
}
