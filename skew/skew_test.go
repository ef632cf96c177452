package skew_test

import (
	"math"
	"math/rand"
	"testing"

	"cenotaph/api"
	"cenotaph/skew"
)

const farthest = 1 << 50

func rates(rho int, l ...skew.Tick) *skew.Rates {
	r := skew.New(rho)
	for _, t := range l {
		r.Go(t)
	}
	return r
}

// P41.1: how far a clock was ahead in any time.
func TestAhead(t *testing.T) {
	for name, c := range map[string]struct {
		rho  int
		l    []skew.Tick
		a, b int
		want int
	}{
		"clocks that stand":        {2, nil, 0, 1, 0},
		"one that goes":            {2, []skew.Tick{{0, 3}}, 0, 1, 3},
		"one that stands":          {2, []skew.Tick{{0, 3}}, 1, 0, 0},
		"the example":              {2, []skew.Tick{{0, 3}, {1, 1}}, 0, 1, 3},
		"the example turned round": {2, []skew.Tick{{0, 3}, {1, 1}}, 1, 0, 1},
		"the other one first":      {2, []skew.Tick{{1, 1}, {0, 3}}, 0, 1, 3},
		"a time with both":         {2, []skew.Tick{{0, 5}, {1, 1}, {0, 4}}, 0, 1, 7},
		"a time ahead":             {2, []skew.Tick{{0, 5}, {1, 9}, {0, 4}}, 0, 1, 5},
		"a time behind":            {2, []skew.Tick{{0, 4}, {1, 9}, {0, 5}}, 0, 1, 5},
		"a time within":            {2, []skew.Tick{{1, 1}, {0, 4}, {1, 1}, {0, 4}, {1, 1}, {0, 1}, {1, 9}}, 0, 1, 6},
		"others don't count":       {2, []skew.Tick{{0, 4}, {2, 100}, {0, 5}, {3, 7}}, 0, 1, 9},
		"the last clock":           {3, []skew.Tick{{4, 6}, {3, 1}, {4, 5}}, 4, 3, 8},
		"a rate below":             {0, []skew.Tick{{0, 6}, {1, 2}, {0, 1}}, 0, 1, 6},
		"a rate of one":            {1, []skew.Tick{{0, 6}, {1, 1}, {0, 2}}, 0, 1, 7},
		"a rate far below":         {math.MinInt, []skew.Tick{{0, 6}, {1, 1}, {0, 2}}, 0, 1, 7},
		"the greatest rate":        {1000, []skew.Tick{{0, 1001}, {1, 1}, {0, 1001}}, 0, 1, 1002},
		"a greater rate":           {1001, []skew.Tick{{0, 1001}, {1, 1}, {0, 1001}}, 0, 1, 1002},
		"a rate far beyond":        {math.MaxInt, []skew.Tick{{0, 1001}, {1, 1}, {0, 1001}}, 0, 1, 1002},
		"itself":                   {2, []skew.Tick{{0, 5}}, 0, 0, 0},
		"a node below":             {2, []skew.Tick{{0, 5}}, 0, -1, 0},
		"a node beyond":            {2, []skew.Tick{{0, 5}}, 0, 5, 0},
		"of a node below":          {2, []skew.Tick{{0, 5}}, -1, 1, 0},
		"of a node beyond":         {2, []skew.Tick{{4, 5}}, 5, 1, 0},
		"far nodes":                {2, []skew.Tick{{4, 5}}, math.MaxInt, math.MinInt, 0},
		"nodes that aren't there":  {2, []skew.Tick{{0, 5}, {-1, 9}, {5, 9}, {math.MinInt, 9}, {math.MaxInt, 9}}, 0, 1, 5},
		"ticks below":              {2, []skew.Tick{{0, 5}, {0, -3}, {0, math.MinInt}, {0, 1}}, 0, 1, 6},
		"ticks below of the other": {2, []skew.Tick{{0, 5}, {1, -3}, {1, math.MinInt}}, 0, 1, 5},
		"as many ticks as may be":  {2, []skew.Tick{{0, api.MaxPhys}}, 0, 1, api.MaxPhys},
		"one more":                 {2, []skew.Tick{{0, api.MaxPhys + 1}}, 0, 1, api.MaxPhys},
		"many more":                {2, []skew.Tick{{0, math.MaxInt}, {0, math.MaxInt}}, 0, 1, 2 * api.MaxPhys},
		"many more of the other":   {1, []skew.Tick{{0, api.MaxPhys}, {0, 1}, {1, math.MaxInt}, {0, 1}}, 0, 1, api.MaxPhys + 1},
		"one tick remains":         {1, []skew.Tick{{0, api.MaxPhys}, {0, 1}, {1, math.MaxInt}, {0, api.MaxPhys}}, 0, 1, api.MaxPhys + 1},
		"the greatest of both":     {1000, []skew.Tick{{0, math.MaxInt}, {1, math.MaxInt}, {0, 7}}, 0, 1, api.MaxPhys},
	} {
		if n := rates(c.rho, c.l...).Ahead(c.a, c.b); n != c.want {
			t.Errorf("%s: %d", name, n)
		}
	}
}

// P41.1: a clock goes on by at most 2^50 ticks in all, to the tick.
func TestFarthest(t *testing.T) {
	for _, rho := range []int{1, 1000} {
		r := skew.New(rho)
		for range farthest/api.MaxPhys - 1 {
			r.Go(skew.Tick{Node: 1, Ticks: api.MaxPhys})
		}
		r.Go(skew.Tick{Node: 1, Ticks: api.MaxPhys - 1})
		if n := r.Ahead(1, 0); n != farthest-1 {
			t.Errorf("it is ahead by %d", n)
		}
		for range 3 {
			r.Go(skew.Tick{Node: 1, Ticks: 2})
			if n := r.Ahead(1, 0); n != farthest {
				t.Errorf("it is ahead by %d", n)
			}
		}
		r.Go(skew.Tick{Node: 2, Ticks: 5})
		r.Go(skew.Tick{Node: 1, Ticks: 5}) // it stands from here on
		r.Go(skew.Tick{Node: 2, Ticks: 5})
		if n := r.Ahead(2, 1); n != 10 {
			t.Errorf("the other one is ahead by %d", n)
		}
	}
}

// P41.1: the first so many clocks, each held against each.
func TestWithin(t *testing.T) {
	r := rates(2, skew.Tick{Node: 0, Ticks: 3}, skew.Tick{Node: 1, Ticks: 5}, skew.Tick{Node: 0, Ticks: 3}, skew.Tick{Node: 4, Ticks: 9}, skew.Tick{Node: 3, Ticks: 2})
	for _, c := range []struct {
		slack, nodes int
		want         bool
	}{
		{4, 2, false}, {5, 2, true}, {6, 2, true}, {5, 3, false}, {6, 3, true}, {6, 4, true}, {8, 5, false}, {9, 5, true}, {8, 6, false}, {9, 6, true}, {8, math.MaxInt, false}, {9, math.MaxInt, true}, {math.MaxInt, 5, true},
		{0, 1, true}, {-1, 1, false}, {math.MinInt, 1, false}, {0, 0, true}, {-1, 0, true}, {math.MinInt, -1, true}, {math.MinInt, math.MinInt, true}, {-1, 2, false}, {0, 2, false},
	} {
		if r.Within(c.slack, c.nodes) != c.want {
			t.Errorf("Within(%d, %d) is %v", c.slack, c.nodes, !c.want)
		}
	}
	if !skew.New(2).Within(0, 5) || skew.New(2).Within(-1, 5) {
		t.Error("clocks that stand aren't within 0")
	}
}

// model: the greatest number in any time, from each call to each.
func model(rho int, l []skew.Tick, a, b int) int {
	best := 0
	for i := range l {
		sum := 0
		for _, t := range l[i:] {
			switch n := max(t.Ticks, 0); t.Node {
			case a:
				sum += n
			case b:
				sum -= rho * n
			}
			best = max(best, sum)
		}
	}
	return best
}

// P41.1: any ticks, against all times; what is told is told at any call.
func TestAgainstAllTimes(t *testing.T) {
	random := rand.New(rand.NewSource(41))
	for range 2000 {
		rho := 1 + random.Intn(4)
		r, l := skew.New(rho), []skew.Tick(nil)
		for range random.Intn(25) {
			tick := skew.Tick{Node: random.Intn(7) - 1, Ticks: random.Intn(9) - 1}
			r.Go(tick)
			l = append(l, tick)
		}
		most := [6]int{}
		for a := range 5 {
			for b := range 5 {
				want := 0
				if a != b {
					want = model(rho, l, a, b)
				}
				if n := r.Ahead(a, b); n != want {
					t.Fatalf("of %v, by %d, %d is ahead of %d by %d", l, rho, a, b, n)
				}
				for nodes := max(a, b) + 1; nodes <= 5; nodes++ {
					most[nodes] = max(most[nodes], want)
				}
			}
		}
		for nodes, n := range most {
			if !r.Within(n, nodes) || nodes > 0 && r.Within(n-1, nodes) {
				t.Fatalf("of %v, by %d, the first %d aren't just within %d", l, rho, nodes, n)
			}
		}
	}
}

func tick(node, ticks int) api.Step { return api.Step{Kind: api.StepTick, N: node, Ticks: ticks} }

// P41.2: the ticks of steps, by api's rate and slack.
func TestSteady(t *testing.T) {
	for name, c := range map[string]struct {
		nodes int
		l     []api.Step
		want  bool
	}{
		"nothing":                 {3, nil, true},
		"four ticks":              {2, []api.Step{tick(0, 4)}, true},
		"five ticks":              {2, []api.Step{tick(0, 5)}, false},
		"five, one by one":        {2, []api.Step{tick(0, 2), tick(0, 2), tick(0, 1)}, false},
		"five, and one between":   {2, []api.Step{tick(0, 2), tick(1, 1), tick(0, 3)}, true},
		"as fast as may be":       {2, []api.Step{tick(0, 4), tick(1, 2), tick(0, 4), tick(1, 2), tick(0, 4)}, true},
		"faster":                  {2, []api.Step{tick(0, 4), tick(1, 2), tick(0, 4), tick(1, 1), tick(0, 4)}, false},
		"of one node":             {1, []api.Step{tick(0, 64), tick(1, 64)}, true},
		"of three, two alone":     {3, []api.Step{tick(0, 4), tick(1, 4), tick(0, 4), tick(1, 4)}, false},
		"counted round":           {2, []api.Step{tick(2, 2), tick(4, 2), tick(-2, 1)}, false},
		"counted round, between":  {2, []api.Step{tick(2, 2), tick(-1, 1), tick(-2, 2), tick(7, 1), tick(0, 2)}, true},
		"counted round by three":  {3, []api.Step{tick(-1, 3), tick(2, 2)}, false},
		"counted round far below": {3, []api.Step{tick(math.MinInt, 3), tick(1, 2)}, false},
		"counted round far above": {2, []api.Step{tick(math.MaxInt, 3), tick(1, 2)}, false},
		"the last of five":        {5, []api.Step{tick(4, 5)}, false},
		"ticks below":             {2, []api.Step{tick(0, 4), tick(0, -9), tick(1, -9), tick(0, math.MinInt)}, true},
		"ticks beyond":            {2, []api.Step{tick(0, 65)}, false},
		"ticks far beyond":        {2, []api.Step{tick(1, 4), tick(0, 4), tick(1, math.MaxInt)}, false},
		"other steps":             {2, []api.Step{{Kind: api.StepArm, N: 0, Ticks: 64}, {Kind: api.StepRoom, N: 1, Ticks: 64}, {N: 1, Ticks: 9}, {Kind: api.StepTTL, Ticks: 9}, {Kind: -1, Ticks: 9}}, true},
		"other steps between":     {2, []api.Step{tick(0, 4), {Kind: api.StepBoot, N: 1, Ticks: 64}, tick(0, 1)}, false},
		"of no nodes":             {0, []api.Step{tick(0, 64)}, true},
		"of nodes below":          {-1, []api.Step{tick(0, 64)}, true},
		"of nodes far below":      {math.MinInt, []api.Step{tick(0, 64)}, true},
		"of six nodes":            {6, []api.Step{tick(0, 64)}, true},
		"of many nodes":           {math.MaxInt, []api.Step{tick(0, 64)}, true},
	} {
		if skew.Steady(c.nodes, c.l...) != c.want {
			t.Errorf("%s: Steady is %v", name, !c.want)
		}
	}
}

// P41.2: any steps, against all times.
func TestSteadyAgainstAllTimes(t *testing.T) {
	random := rand.New(rand.NewSource(2))
	seen := map[bool]int{}
	for range 20000 {
		nodes := 1 + random.Intn(5)
		var l []skew.Tick
		var steps []api.Step
		for range random.Intn(10) {
			n, ticks := random.Intn(20)-10, random.Intn(5)-1
			if random.Intn(30) == 0 {
				ticks = 60 + random.Intn(30)
			}
			l = append(l, skew.Tick{Node: ((n % nodes) + nodes) % nodes, Ticks: min(ticks, 64)})
			steps = append(steps, tick(n, ticks), api.Step{Kind: api.StepKind(11 + random.Intn(7)), N: n, Ticks: ticks})
		}
		want := true
		for a := range nodes {
			for b := range nodes {
				want = want && (a == b || model(2, l, a, b) <= 4)
			}
		}
		if skew.Steady(nodes, steps...) != want {
			t.Fatalf("of %d nodes and %v Steady is %v", nodes, l, !want)
		}
		seen[want]++
	}
	if seen[true] < 1000 || seen[false] < 1000 {
		t.Error("the cases are", seen)
	}
}
