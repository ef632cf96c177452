package stamp_test

import (
	"math"
	"math/rand"
	"slices"
	"testing"

	"cenotaph/api"
	"cenotaph/stamp"
)

// stamps: all of these numbers.
func stamps(l ...int) []api.Stamp {
	var all []api.Stamp
	for _, phys := range l {
		for _, logic := range l {
			for _, who := range l {
				all = append(all, api.Stamp{Phys: phys, Logic: logic, Who: who})
			}
		}
	}
	return all
}

// P4.1: the order.
func TestCompare(t *testing.T) {
	for _, c := range []struct {
		a, b api.Stamp
		want int
	}{
		{api.Stamp{}, api.Stamp{}, 0}, {api.Stamp{Phys: 3, Logic: 2, Who: 1}, api.Stamp{Phys: 3, Logic: 2, Who: 1}, 0},
		{api.Stamp{Phys: 1, Logic: 9, Who: 9}, api.Stamp{Phys: 2}, -1}, {api.Stamp{Phys: 2, Logic: 1, Who: 9}, api.Stamp{Phys: 2, Logic: 2}, -1}, {api.Stamp{Phys: 2, Logic: 2, Who: 1}, api.Stamp{Phys: 2, Logic: 2, Who: 2}, -1},
		{api.Stamp{Phys: math.MinInt}, api.Stamp{Phys: math.MaxInt}, -1}, {api.Stamp{Logic: math.MinInt}, api.Stamp{Logic: math.MaxInt}, -1}, {api.Stamp{Who: math.MinInt}, api.Stamp{Who: math.MaxInt}, -1},
	} {
		if n := stamp.Compare(c.a, c.b); n != c.want {
			t.Errorf("Compare(%v, %v) is %d", c.a, c.b, n)
		}
		if n := stamp.Compare(c.b, c.a); n != -c.want {
			t.Errorf("Compare(%v, %v) is %d", c.b, c.a, n)
		}
	}
}

func TestCompareAgainstRows(t *testing.T) {
	all := stamps(math.MinInt, -1, 0, 1, api.MaxPhys, api.MaxPhys+1, math.MaxInt)
	for _, a := range all {
		for _, b := range all {
			want := slices.Compare([]int{a.Phys, a.Logic, a.Who}, []int{b.Phys, b.Logic, b.Who})
			later := a
			if want < 0 {
				later = b
			}
			if n := stamp.Compare(a, b); n != want {
				t.Fatalf("Compare(%v, %v) is %d", a, b, n)
			}
			if stamp.Less(a, b) != (want < 0) {
				t.Fatalf("Less(%v, %v) is %v", a, b, want >= 0)
			}
			if m := stamp.Max(a, b); m != later {
				t.Fatalf("Max(%v, %v) is %v", a, b, m)
			}
		}
	}
}

// P4.1: which stamps may be.
func TestRight(t *testing.T) {
	for _, n := range []int{1, 2, api.MaxPhys - 1, api.MaxPhys} {
		for _, s := range []api.Stamp{{Phys: n}, {Logic: n}, {Who: n}, {Phys: n, Logic: n, Who: n}} {
			if !stamp.Right(s) {
				t.Errorf("Right(%v) is false", s)
			}
		}
	}
	for _, n := range []int{math.MinInt, -1, api.MaxPhys + 1, math.MaxInt} {
		for _, s := range []api.Stamp{{Phys: n}, {Logic: n}, {Who: n}, {Phys: n, Logic: 1, Who: 1}, {Phys: 1, Logic: n, Who: 1}, {Phys: 1, Logic: 1, Who: n}, {Phys: n, Logic: n, Who: n}} {
			if stamp.Right(s) {
				t.Errorf("Right(%v) is true", s)
			}
		}
	}
	if stamp.Right(api.Stamp{}) {
		t.Error("the zero stamp is Right")
	}
}

// P4.2: a new clock, its bounds.
func TestNewAndTick(t *testing.T) {
	for _, c := range []struct{ who, phys, wantWho, wantPhys int }{
		{3, 7, 3, 7}, {0, 1, 0, 1}, {api.MaxPhys, api.MaxPhys, api.MaxPhys, api.MaxPhys}, {api.MaxPhys + 1, api.MaxPhys + 1, api.MaxPhys, api.MaxPhys}, {math.MaxInt, math.MaxInt, api.MaxPhys, api.MaxPhys}, {-1, 5, 0, 5}, {math.MinInt, 5, 0, 5},
	} {
		clock := stamp.New(c.who, c.phys)
		if clock.Phys() != c.wantPhys || clock.Last() != (api.Stamp{}) {
			t.Errorf("New(%d, %d) is at %d, %v", c.who, c.phys, clock.Phys(), clock.Last())
		}
		if s, ok := clock.Now(); s != (api.Stamp{Phys: c.wantPhys, Who: c.wantWho}) || !ok {
			t.Errorf("New(%d, %d).Now() is %v, %v", c.who, c.phys, s, ok)
		}
	}
	for _, c := range []struct{ phys, n, want int }{
		{7, 0, 7}, {7, 1, 8}, {7, 64, 71}, {7, -1, 7}, {7, math.MinInt, 7}, {-9, 2, 2}, {math.MinInt, 0, 0}, {math.MinInt, -5, 0},
		{7, api.MaxPhys, api.MaxPhys}, {0, api.MaxPhys, api.MaxPhys}, {0, api.MaxPhys - 1, api.MaxPhys - 1}, {api.MaxPhys - 1, 1, api.MaxPhys}, {api.MaxPhys - 1, 2, api.MaxPhys}, {api.MaxPhys, 1, api.MaxPhys}, {7, math.MaxInt, api.MaxPhys}, {math.MaxInt, math.MaxInt, api.MaxPhys},
	} {
		clock := stamp.New(1, c.phys)
		clock.Tick(c.n)
		if clock.Phys() != c.want {
			t.Errorf("New(1, %d), Tick(%d): %d", c.phys, c.n, clock.Phys())
		}
	}
}

// P4.2: what Now tells, as it goes.
func TestNow(t *testing.T) {
	c := stamp.New(3, 7)
	tells := func(phys, logic int) {
		t.Helper()
		want := api.Stamp{Phys: phys, Logic: logic, Who: 3}
		if s, ok := c.Now(); s != want || !ok || c.Last() != want {
			t.Errorf("Now is %v, %v, not %v; Last %v", s, ok, want, c.Last())
		}
	}
	tells(7, 0)
	tells(7, 1)
	tells(7, 2)
	c.Tick(1)
	tells(8, 0)
	c.See(api.Stamp{Phys: 8, Logic: 0, Who: 2}) // ahead of what was told
	tells(8, 1)
	c.See(api.Stamp{Phys: 8, Logic: 1, Who: 4}) // behind it by Who alone
	tells(8, 2)
	c.See(api.Stamp{Phys: 20, Logic: 5, Who: 1})
	tells(20, 6)
	c.Tick(12)
	tells(20, 7)
	c.Tick(1)
	tells(21, 0)
	if c.Phys() != 21 {
		t.Error(c.Phys())
	}
}

// P4.2: a clock at 0 that saw nothing.
func TestNowAtZero(t *testing.T) {
	c := stamp.New(0, 0)
	if s, ok := c.Now(); s != (api.Stamp{Logic: 1}) || !ok {
		t.Error(s, ok)
	}
	if s, ok := c.Now(); s != (api.Stamp{Logic: 2}) || !ok {
		t.Error(s, ok)
	}
}

// P4.2: what is seen, and what isn't.
func TestSee(t *testing.T) {
	for _, c := range []struct {
		s    api.Stamp
		seen bool
	}{
		{api.Stamp{Phys: 5, Logic: 5, Who: 6}, true}, {api.Stamp{Phys: 5, Logic: 6}, true}, {api.Stamp{Phys: 6}, true}, {api.Stamp{Phys: api.MaxPhys, Logic: api.MaxPhys, Who: api.MaxPhys}, true},
		{api.Stamp{Phys: 5, Logic: 5, Who: 5}, true}, {api.Stamp{Phys: 5, Logic: 5, Who: 4}, false}, {api.Stamp{Phys: 5, Logic: 4, Who: 9}, false}, {api.Stamp{Phys: 4, Logic: 9, Who: 9}, false}, {api.Stamp{}, false},
		{api.Stamp{Phys: api.MaxPhys + 1}, false}, {api.Stamp{Phys: 9, Logic: api.MaxPhys + 1}, false}, {api.Stamp{Phys: 9, Who: api.MaxPhys + 1}, false}, {api.Stamp{Phys: 9, Logic: -1}, false}, {api.Stamp{Phys: 9, Who: -1}, false}, {api.Stamp{Phys: math.MaxInt, Logic: math.MaxInt, Who: math.MaxInt}, false},
	} {
		clock, last := stamp.New(2, 1), api.Stamp{Phys: 5, Logic: 5, Who: 5}
		clock.See(last)
		clock.See(c.s)
		if c.seen {
			last = c.s
		}
		if clock.Last() != last || clock.Phys() != 1 {
			t.Errorf("behind See(%v) Last is %v", c.s, clock.Last())
		}
	}
}

// P4.2: there is none any more; with the next tick there is one.
func TestNowEnds(t *testing.T) {
	c := stamp.New(4, 2)
	last := api.Stamp{Phys: 5, Logic: api.MaxPhys, Who: 1}
	c.See(last)
	for range 2 {
		if s, ok := c.Now(); s != (api.Stamp{}) || ok || c.Last() != last {
			t.Error(s, ok, c.Last())
		}
	}
	c.Tick(3)
	if s, ok := c.Now(); s != (api.Stamp{}) || ok || c.Last() != last {
		t.Error(s, ok, c.Last())
	}
	c.Tick(1)
	if s, ok := c.Now(); s != (api.Stamp{Phys: 6, Who: 4}) || !ok {
		t.Error(s, ok)
	}
	c = stamp.New(4, api.MaxPhys)
	c.See(api.Stamp{Phys: api.MaxPhys, Logic: api.MaxPhys - 1})
	if s, ok := c.Now(); s != (api.Stamp{Phys: api.MaxPhys, Logic: api.MaxPhys, Who: 4}) || !ok {
		t.Error(s, ok)
	}
	c.Tick(5)
	if s, ok := c.Now(); s != (api.Stamp{}) || ok {
		t.Error(s, ok)
	}
}

// P4.3: each stamp that is told is Right, and behind all that were told or seen ahead of it.
func TestToldRise(t *testing.T) {
	random := rand.New(rand.NewSource(5))
	seen := stamps(-1, 0, 1, 3, 9, api.MaxPhys-1, api.MaxPhys, api.MaxPhys+1)
	for range 2000 {
		c := stamp.New(random.Intn(5), random.Intn(10))
		var ahead []api.Stamp
		for range 30 {
			switch random.Intn(5) {
			case 0:
				c.Tick(random.Intn(4) - 1)
			case 1:
				s := api.Stamp{Phys: random.Intn(12), Logic: random.Intn(4), Who: random.Intn(5)}
				if random.Intn(20) == 0 {
					s = seen[random.Intn(len(seen))]
				}
				c.See(s)
				if stamp.Right(s) {
					ahead = append(ahead, s)
				}
			default:
				s, ok := c.Now()
				if ok != stamp.Right(s) || ok && slices.ContainsFunc(ahead, func(a api.Stamp) bool { return !stamp.Less(a, s) }) {
					t.Fatalf("Now is %v, %v behind %v", s, ok, ahead)
				}
				if ok {
					ahead = append(ahead, s)
				}
			}
			if len(ahead) > 0 && c.Last() != slices.MaxFunc(ahead, stamp.Compare) {
				t.Fatalf("Last is %v behind %v", c.Last(), ahead)
			}
		}
	}
}
