package pick_test

import (
	"math"
	"math/rand"
	"slices"
	"testing"

	"cenotaph/api"
	"cenotaph/pick"
)

// P43.1: how long ago, and how much it is wanted.
func TestDueAndScore(t *testing.T) {
	for _, c := range []struct {
		n               pick.Need
		now, due, score int
	}{
		{pick.Need{}, 0, 0, 0}, {pick.Need{Last: 3}, 8, 5, 5}, {pick.Need{Last: 8}, 3, 0, 0}, {pick.Need{Last: 8}, 8, 0, 0}, {pick.Need{Last: 7}, 8, 1, 1},
		{pick.Need{Last: -1}, 8, 8, 8}, {pick.Need{Last: math.MinInt}, 8, 8, 8}, {pick.Need{Last: 8}, -1, 0, 0}, {pick.Need{}, -1, 0, 0}, {pick.Need{Last: math.MinInt}, math.MaxInt, api.MaxPhys, api.MaxPhys}, {pick.Need{Last: math.MaxInt}, math.MinInt, 0, 0}, {pick.Need{Last: api.MaxPhys - 1}, api.MaxPhys + 9, 1, 1}, {pick.Need{Last: api.MaxPhys + 9}, math.MaxInt, 0, 0}, {pick.Need{Last: 1}, api.MaxPhys, api.MaxPhys - 1, api.MaxPhys - 1},
		{pick.Need{Waiting: 1}, 0, 0, 10}, {pick.Need{Waiting: 3}, 2, 2, 32}, {pick.Need{Waiting: 100}, 0, 0, 1000}, {pick.Need{Waiting: 101}, 0, 0, 1000}, {pick.Need{Waiting: math.MaxInt}, 0, 0, 1000}, {pick.Need{Waiting: -1}, 5, 5, 5}, {pick.Need{Waiting: math.MinInt}, 5, 5, 5},
		{pick.Need{Waste: 9}, 0, 0, 0}, {pick.Need{Waste: 10}, 0, 0, 1}, {pick.Need{Waste: 19}, 0, 0, 1}, {pick.Need{Waste: 99}, 0, 0, 9}, {pick.Need{Waste: 100}, 0, 0, 10}, {pick.Need{Waste: 110}, 0, 0, 10}, {pick.Need{Waste: math.MaxInt}, 0, 0, 10}, {pick.Need{Waste: -10}, 5, 5, 5}, {pick.Need{Waste: math.MinInt}, 5, 5, 5},
		{pick.Need{Last: 2, Waste: 55, Waiting: 2}, 9, 7, 32}, {pick.Need{Last: 9, Waste: 100, Waiting: 100}, 2, 0, 1010},
	} {
		if due, score := c.n.Due(c.now), c.n.Score(c.now); due != c.due || score != c.score {
			t.Errorf("%v at %d: Due %d, Score %d", c.n, c.now, due, score)
		}
	}
}

// P43.1: which are to be repaired, and in which order.
func TestOrderAndNext(t *testing.T) {
	for name, c := range map[string]struct {
		now  int
		l    []pick.Need
		want []int
	}{
		"nothing":              {9, nil, nil},
		"the example":          {9, []pick.Need{{Last: 8}, {Last: 1}}, []int{1}},
		"just due":             {9, []pick.Need{{Last: 4}}, []int{0}},
		"not yet":              {9, []pick.Need{{Last: 5}}, nil},
		"not yet, all wasted":  {9, []pick.Need{{Last: 5, Waste: 100}}, nil},
		"one that waits":       {9, []pick.Need{{Last: 9, Waiting: 1}}, []int{0}},
		"fewer than none":      {9, []pick.Need{{Last: 9, Waiting: -1}}, nil},
		"many that wait":       {9, []pick.Need{{Last: 20, Waiting: math.MaxInt}}, []int{0}},
		"by ticks":             {20, []pick.Need{{Last: 9}, {Last: 3}, {Last: 16}, {Last: 8}, {Last: 15}}, []int{1, 3, 0, 4}},
		"like ones":            {20, []pick.Need{{Last: 9}, {Last: 8}, {Last: 9}, {Last: 8}, {Last: 9}}, []int{1, 3, 0, 2, 4}},
		"like ones, otherwise": {20, []pick.Need{{Last: 10}, {Last: 20, Waiting: 1}, {Last: 11, Waste: 15}, {Last: 19, Waiting: 1}}, []int{3, 0, 1, 2}},
		"waste":                {20, []pick.Need{{Last: 9}, {Last: 10, Waste: 20}, {Last: 10, Waste: 19}}, []int{1, 0, 2}},
		"waiting":              {20, []pick.Need{{}, {Last: 20, Waiting: 2}, {Last: 20, Waiting: 3}, {Last: 19, Waiting: 2}}, []int{2, 3, 0, 1}},
		"waiting of hundreds":  {20, []pick.Need{{Waiting: 100}, {Last: 1, Waiting: math.MaxInt}, {Waiting: 101}}, []int{0, 2, 1}},
		"at a tick below":      {-9, []pick.Need{{}, {Last: -100}, {Waiting: 1}}, []int{2}},
		"at a tick beyond":     {math.MaxInt, []pick.Need{{Last: api.MaxPhys - 5}, {Last: api.MaxPhys - 4}, {}, {Last: math.MinInt}}, []int{2, 3, 0}},
	} {
		if l := slices.Collect(pick.Order(c.now, c.l...)); !slices.Equal(l, c.want) {
			t.Errorf("%s: Order %v", name, l)
		}
		first, some := 0, len(c.want) > 0
		if some {
			first = c.want[0]
		}
		if n, ok := pick.Next(c.now, c.l...); n != first || ok != some {
			t.Errorf("%s: Next %d, %v", name, n, ok)
		}
	}
}

// Rules 5, 8: an order may be left, and gone through again; what was handed in stays as it is, and isn't kept.
func TestOrderAgain(t *testing.T) {
	l := []pick.Need{{Last: 9}, {Last: 3}, {Last: 8}}
	order := pick.Order(20, l...)
	for range 2 {
		for i := range order {
			if i != 1 {
				t.Error("the first one is", i)
			}
			break
		}
		if got := slices.Collect(order); !slices.Equal(got, []int{1, 2, 0}) {
			t.Error("it goes through", got)
		}
	}
	pick.Next(20, l...)
	pick.Plan(0, 100, 1, 100, l...)
	if !slices.Equal(l, []pick.Need{{Last: 9}, {Last: 3}, {Last: 8}}) {
		t.Error("what was handed in became", l)
	}
	l[0] = pick.Need{}
	if got := slices.Collect(order); !slices.Equal(got, []int{1, 2, 0}) {
		t.Error("it is kept: it goes through", got)
	}
}

// P43.2: which ranges are repaired, one behind the other.
func TestPlan(t *testing.T) {
	two := []pick.Need{{Last: 1}, {Last: 0}}
	due := make([]pick.Need, 3000)
	for name, c := range map[string]struct {
		from, to, each, most int
		l                    []pick.Need
		want                 []int
	}{
		"nothing":                    {0, 100, 1, 100, nil, nil},
		"one each fifth tick":        {0, 20, 1, 100, []pick.Need{{}}, []int{0, 0, 0}},
		"up to ahead of the tick":    {0, 15, 1, 100, []pick.Need{{}}, []int{0, 0}},
		"just one tick":              {5, 6, 1, 100, []pick.Need{{}}, []int{0}},
		"no tick":                    {5, 5, 1, 100, []pick.Need{{}}, nil},
		"ticks that fall":            {6, 5, 1, 100, []pick.Need{{}}, nil},
		"two by turns":               {5, 12, 1, 100, two, []int{1, 0, 1, 0}},
		"two, each third tick":       {5, 20, 3, 100, two, []int{1, 0, 1, 0, 1}},
		"at most three":              {5, 12, 1, 3, two, []int{1, 0, 1}},
		"at most none":               {5, 12, 1, 0, two, nil},
		"fewer than none":            {5, 12, 1, -1, two, nil},
		"far fewer":                  {5, 12, 1, math.MinInt, two, nil},
		"each no ticks":              {5, 12, 0, 100, two, []int{1, 0, 1, 0}},
		"each fewer":                 {5, 12, math.MinInt, 100, two, []int{1, 0, 1, 0}},
		"each many":                  {5, 1000, math.MaxInt, 100, two, []int{1}},
		"each many, from far":        {api.MaxPhys - 1, math.MaxInt, math.MaxInt, 100, two, []int{1}},
		"as many as there are":       {0, math.MaxInt, api.MaxPhys - 1, 100, []pick.Need{{Waiting: 1}}, []int{0, 0}},
		"as many, but one":           {0, math.MaxInt, api.MaxPhys, 100, []pick.Need{{Waiting: 1}}, []int{0}},
		"from below":                 {-1000, 2, 1, 100, []pick.Need{{Waiting: 1}, {Waiting: 1}, {Waiting: 1}}, []int{0, 1}},
		"from far below":             {math.MinInt, 2, 1, 100, []pick.Need{{Waiting: 1}, {Waiting: 1}, {Waiting: 1}}, []int{0, 1}},
		"up to below":                {-10, -1, 1, 100, []pick.Need{{Waiting: 1}}, nil},
		"up to far beyond":           {api.MaxPhys - 2, math.MaxInt, 1, 100, make([]pick.Need, 9), []int{0, 1}},
		"from beyond":                {math.MaxInt, math.MaxInt, 1, 100, []pick.Need{{Waiting: 1}}, nil},
		"who waits is done":          {0, 12, 1, 100, []pick.Need{{Waiting: 5, Waste: 100}, {Waiting: 4}}, []int{0, 1, 0, 1, 0, 1}},
		"waste is done":              {10, 17, 1, 100, []pick.Need{{Waste: 100}, {Last: 1}}, []int{0, 1, 0, 1}},
		"the first thousand, of all": {5, math.MaxInt, 1, math.MaxInt, due, places(1000)},
		"a thousand ticks":           {5, 1005, 1, math.MaxInt, due, places(1000)},
		"one fewer":                  {5, 1004, 1, math.MaxInt, due, places(999)},
		"of ticks, not of repairs":   {0, math.MaxInt, 1, math.MaxInt, []pick.Need{{Last: 997}, {Last: 994}, {Last: 995}}, []int{1}},
		"three, far apart":           {0, math.MaxInt, 1 << 20, 3, due[:2], []int{0, 1, 0}},
	} {
		if l := pick.Plan(c.from, c.to, c.each, c.most, c.l...); !slices.Equal(l, c.want) {
			t.Errorf("%s: %v", name, l)
		}
	}
}

// places: the first so many.
func places(n int) []int {
	var l []int
	for i := range n {
		l = append(l, i)
	}
	return l
}

// model: a plan as the document words it, tick by tick.
func model(from, to, each, most int, l []pick.Need) []int {
	l = slices.Clone(l)
	var plan []int
	for i := range 1000 {
		now := from + i*each
		if now >= to || len(plan) >= most {
			break
		}
		best, place := -1, -1
		for j, n := range l {
			due := max(now-n.Last, 0)
			score := due + 10*n.Waiting + n.Waste/10
			if (due >= 5 || n.Waiting > 0) && score > best {
				best, place = score, j
			}
		}
		if place >= 0 {
			l[place] = pick.Need{Last: now}
			plan = append(plan, place)
		}
	}
	return plan
}

// P43.1, P43.2: any needs, against the document's words; Order's places stand by their scores.
func TestAgainstModel(t *testing.T) {
	random := rand.New(rand.NewSource(43))
	for range 5000 {
		var l []pick.Need
		for range random.Intn(6) {
			l = append(l, pick.Need{Last: random.Intn(20), Waste: random.Intn(101), Waiting: max(random.Intn(6)-3, 0)})
		}
		from, to, each, most := random.Intn(20), random.Intn(60), 1+random.Intn(4), random.Intn(20)
		if got := pick.Plan(from, to, each, most, l...); !slices.Equal(got, model(from, to, each, most, l)) {
			t.Fatalf("of %v, from %d to %d, each %d, at most %d: %v", l, from, to, each, most, got)
		}
		order := slices.Collect(pick.Order(from, l...))
		rises := slices.IsSortedFunc(order, func(i, j int) int {
			if a, b := l[i].Score(from), l[j].Score(from); a != b {
				return b - a
			}
			return i - j
		})
		for i, n := range l {
			rises = rises && slices.Contains(order, i) == (n.Due(from) >= 5 || n.Waiting > 0)
		}
		if next, ok := pick.Next(from, l...); !rises || ok != (len(order) > 0) || ok && next != order[0] || !ok && next != 0 {
			t.Fatalf("of %v at %d: %v, and %d, %v", l, from, order, next, ok)
		}
	}
}

// P1: many ranges end, too.
func TestMany(t *testing.T) {
	l := make([]pick.Need, 50000)
	if n := len(pick.Plan(5, math.MaxInt, 1, math.MaxInt, l...)); n != 1000 {
		t.Error("it plans", n)
	}
	if n := len(slices.Collect(pick.Order(5, l...))); n != 50000 {
		t.Error("there are", n)
	}
}
