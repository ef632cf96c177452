package tier_test

import (
	"math"
	"math/big"
	"math/rand"
	"slices"
	"testing"

	"cenotaph/tier"
)

const most = 1 << 40

// groups: as the document words it: group by group, the least size that is in none first; by great numbers, that don't wrap round.
func groups(sizes []int) [][]int {
	in := make([]bool, len(sizes))
	var all [][]int
	for range sizes {
		first := -1
		for i := range sizes {
			if !in[i] && (first < 0 || size(sizes[i]).Cmp(size(sizes[first])) < 0) {
				first = i
			}
		}
		if first < 0 {
			break
		}
		limit := new(big.Int).Mul(size(sizes[first]), big.NewInt(2))
		if limit.Sign() == 0 {
			limit.SetInt64(2)
		}
		var g []int
		for i := range sizes {
			if !in[i] && size(sizes[i]).Cmp(limit) <= 0 {
				g, in[i] = append(g, i), true
			}
		}
		slices.SortStableFunc(g, func(i, j int) int { return size(sizes[i]).Cmp(size(sizes[j])) })
		all = append(all, g)
	}
	return all
}

func size(n int) *big.Int { return big.NewInt(int64(max(n, 0))) }

func pick(sizes []int) []int {
	for _, g := range groups(sizes) {
		if len(g) >= 4 {
			slices.Sort(g)
			return g
		}
	}
	return nil
}

func rounds(sizes []int) int {
	for n := 0; ; n++ {
		p := pick(sizes)
		if len(p) == 0 {
			return n
		}
		sum := new(big.Int)
		var rest []int
		for i, s := range sizes {
			if slices.Contains(p, i) {
				sum.Add(sum, big.NewInt(int64(min(max(s, 0), most))))
			} else {
				rest = append(rest, s)
			}
		}
		if sum.Cmp(big.NewInt(most)) > 0 {
			sum.SetInt64(most)
		}
		sizes = append(rest, int(sum.Int64()))
	}
}

// P18.1, P18.2: sizes whose groups are told.
func TestTold(t *testing.T) {
	if tier.Least != 4 || tier.Factor != 2 {
		t.Fatal(tier.Least, tier.Factor)
	}
	for _, c := range []struct {
		sizes  []int
		groups [][]int
		pick   []int
		rounds int
	}{
		{nil, nil, nil, 0}, {[]int{7}, [][]int{{0}}, nil, 0}, {[]int{5, 1, 2, 9}, [][]int{{1, 2}, {0, 3}}, nil, 0},
		{[]int{1, 1, 1}, [][]int{{0, 1, 2}}, nil, 0}, {[]int{1, 1, 1, 1}, [][]int{{0, 1, 2, 3}}, []int{0, 1, 2, 3}, 1}, {[]int{1, 9, 2, 1, 1}, [][]int{{0, 3, 4, 2}, {1}}, []int{0, 2, 3, 4}, 1},
		{[]int{0, 1, 2, 3}, [][]int{{0, 1, 2}, {3}}, nil, 0}, {[]int{2, 0, 1, -5, 3}, [][]int{{1, 3, 2, 0}, {4}}, []int{0, 1, 2, 3}, 1}, {[]int{-1, math.MinInt, 0, -7}, [][]int{{0, 1, 2, 3}}, []int{0, 1, 2, 3}, 1},
		{[]int{8, 4, 2, 1}, [][]int{{3, 2}, {1, 0}}, nil, 0}, {[]int{3, 6, 7}, [][]int{{0, 1}, {2}}, nil, 0}, {[]int{10, 20, 21, 11, 19, 20}, [][]int{{0, 3, 4, 1, 5}, {2}}, []int{0, 1, 3, 4, 5}, 1},
		{[]int{1, 1, 1, 1, 4, 4, 4}, [][]int{{0, 1, 2, 3}, {4, 5, 6}}, []int{0, 1, 2, 3}, 2},                                                   // 4 4 4 4, then 16
		{[]int{1, 1, 1, 1, 9, 9, 9, 18}, [][]int{{0, 1, 2, 3}, {4, 5, 6, 7}}, []int{0, 1, 2, 3}, 2},                                            // 9 9 9 18 4: 4, and the others, 45
		{[]int{1, 1, 1, 9, 9, 9, 18, 99}, [][]int{{0, 1, 2}, {3, 4, 5, 6}, {7}}, []int{3, 4, 5, 6}, 1},                                         // 1 1 1 99 45
		{[]int{0, 0, 0, 0, 0, 0, 0, 1, 2}, [][]int{{0, 1, 2, 3, 4, 5, 6, 7, 8}}, []int{0, 1, 2, 3, 4, 5, 6, 7, 8}, 1},                          // 3
		{[]int{0, 0, 0, 0, 3, 3, 5}, [][]int{{0, 1, 2, 3}, {4, 5, 6}}, []int{0, 1, 2, 3}, 1},                                                   // 3 3 5 0
		{[]int{math.MaxInt, math.MaxInt, math.MaxInt}, [][]int{{0, 1, 2}}, nil, 0},                                                             //
		{[]int{math.MaxInt, math.MaxInt/2 + 1, math.MaxInt / 2, 1}, [][]int{{3}, {2, 1}, {0}}, nil, 0},                                         // MaxInt is twice its half, and one
		{[]int{math.MaxInt, math.MaxInt/2 + 1, math.MaxInt - 1, math.MaxInt}, [][]int{{1, 2, 0, 3}}, []int{0, 1, 2, 3}, 1},                     //
		{[]int{most, most, most + 1, 2 * most}, [][]int{{0, 1, 2, 3}}, []int{0, 1, 2, 3}, 1},                                                   //
		{[]int{8 * most, 8 * most, 8 * most, 16 * most, 2 * most, 2 * most, 2 * most}, [][]int{{4, 5, 6}, {0, 1, 2, 3}}, []int{0, 1, 2, 3}, 2}, // the sum is 2^40: of one group with 2^41
		{[]int{3 * most, 3 * most, 3 * most, 3 * most, 2 * most, most, most}, [][]int{{5, 6, 4}, {0, 1, 2, 3}}, []int{0, 1, 2, 3}, 2},          // the sum is 2^40: of one group with 2^40
	} {
		sizes := append(slices.Clone(c.sizes), 1, 1, 1, 1)[:len(c.sizes)] // what lies behind the length counts for nothing
		if g := tier.Groups(sizes...); !slices.EqualFunc(g, c.groups, slices.Equal) {
			t.Errorf("Groups(%v) is %v", c.sizes, g)
		}
		if p := tier.Pick(sizes...); !slices.Equal(p, c.pick) {
			t.Errorf("Pick(%v) is %v", c.sizes, p)
		}
		if n := tier.Rounds(sizes...); n != c.rounds {
			t.Errorf("Rounds(%v) is %d", c.sizes, n)
		}
		if !slices.Equal(sizes, c.sizes) {
			t.Errorf("%v became %v", c.sizes, sizes)
		}
	}
}

// P18.1, P18.2: any sizes, against groups that are looked for one by one.
func TestAgainstModels(t *testing.T) {
	random := rand.New(rand.NewSource(18))
	scales := []int{1, 3, 10, 100, 1000, most, math.MaxInt}
	merged := 0
	for range 20000 {
		var sizes []int
		scale := scales[random.Intn(len(scales))]
		for range random.Intn(25) {
			n := random.Intn(scale)
			switch random.Intn(9) {
			case 0:
				n = -n
			case 1, 2, 3, 4:
				n >>= random.Intn(8)
			case 5:
				n = []int{0, 1, 2, 4, most - 1, most, most + 1, math.MaxInt, math.MinInt, math.MaxInt / 2}[random.Intn(10)]
			}
			sizes = append(sizes, n)
		}
		if g := tier.Groups(sizes...); !slices.EqualFunc(g, groups(sizes), slices.Equal) {
			t.Fatalf("Groups(%v) is %v", sizes, g)
		}
		if p := tier.Pick(sizes...); !slices.Equal(p, pick(sizes)) {
			t.Fatalf("Pick(%v) is %v", sizes, p)
		}
		n := tier.Rounds(sizes...)
		if n != rounds(sizes) {
			t.Fatalf("Rounds(%v) is %d", sizes, n)
		}
		if n > 1 {
			merged++
		}
	}
	if merged < 1000 {
		t.Error("few have several rounds:", merged)
	}
}

// P1, rule 5: many sizes end, too; groups share no memory.
func TestManyAndNew(t *testing.T) {
	random := rand.New(rand.NewSource(1))
	var sizes []int
	for range 100000 {
		sizes = append(sizes, random.Int()>>random.Intn(63))
	}
	if n := tier.Rounds(sizes...); n < 2 {
		t.Error("there are few rounds:", n)
	}
	g := tier.Groups(5, 1, 2, 9, 1)
	_ = append(g[0], 77)
	g[0][0] = 88
	if !slices.Equal(g[1], []int{0, 3}) {
		t.Error("groups share memory:", g)
	}
}
