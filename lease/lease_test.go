package lease_test

import (
	"math"
	"math/big"
	"math/rand"
	"testing"

	"cenotaph/api"
	"cenotaph/lease"
)

// P23.1: a lease that is granted, and what is left of it at ticks.
func TestGrant(t *testing.T) {
	for _, c := range []struct {
		grant, now, left int
	}{
		{3, 2, 9}, {3, 3, 8}, {3, 4, 7}, {3, 10, 1}, {3, 11, 0}, {3, 12, 0}, {3, 0, 11}, {3, -1, 11}, {3, math.MinInt, 11}, {3, math.MaxInt, 0},
		{0, 0, 8}, {0, 7, 1}, {0, 8, 0}, {-1, 0, 8}, {-1, 7, 1}, {-1, 8, 0}, {-1, -5, 8}, {math.MinInt, 7, 1}, {math.MinInt, 8, 0}, {math.MinInt, math.MinInt, 8},
		{api.MaxPhys, api.MaxPhys, 8}, {api.MaxPhys, api.MaxPhys + 7, 1}, {api.MaxPhys, api.MaxPhys + 8, 0}, {api.MaxPhys + 1, api.MaxPhys + 7, 1}, {api.MaxPhys + 1, api.MaxPhys + 8, 0}, {math.MaxInt, api.MaxPhys + 7, 1}, {math.MaxInt, api.MaxPhys + 8, 0}, {api.MaxPhys - 1, api.MaxPhys + 7, 0}, {math.MaxInt, math.MaxInt, 0}, {math.MaxInt, -1, api.MaxPhys + 8},
	} {
		var l lease.Lease
		l.Grant(c.grant)
		if l.Valid(c.now) != (c.left > 0) || l.Left(c.now) != c.left {
			t.Errorf("of %d, at %d: Valid %v, Left %d", c.grant, c.now, l.Valid(c.now), l.Left(c.now))
		}
	}
}

// P23.1: none at first, none when it is dropped; the last Grant counts.
func TestDrop(t *testing.T) {
	var l lease.Lease
	none := func(when string) {
		t.Helper()
		for _, now := range []int{math.MinInt, -100, -1, 0, 1, 7, 8, 10, 11, math.MaxInt} {
			if l.Valid(now) || l.Left(now) != 0 {
				t.Errorf("%s there is one at %d", when, now)
			}
		}
	}
	none("at first")
	l.Drop()
	none("dropped at first")
	l.Grant(3)
	l.Drop()
	none("dropped")
	l.Drop()
	none("dropped twice")
	for _, c := range []struct{ now, end int }{{3, 11}, {5, 13}, {5, 13}, {1, 9}} {
		l.Grant(c.now)
		if !l.Valid(c.end-1) || l.Valid(c.end) || l.Left(0) != c.end {
			t.Errorf("of %d it isn't valid up to ahead of %d", c.now, c.end)
		}
	}
}

// P23.2: at least Wait ticks behind, of any numbers.
func TestReady(t *testing.T) {
	if lease.Wait != 20 {
		t.Fatal(lease.Wait)
	}
	for _, c := range []struct {
		now, since int
		want       bool
	}{
		{20, 0, true}, {19, 0, false}, {21, 0, true}, {0, 0, false}, {0, 20, false}, {-1, 20, false}, {7, -13, true}, {7, -12, false}, {-100, -120, true}, {-100, -119, false},
		{math.MaxInt, math.MinInt, true}, {math.MinInt, math.MaxInt, false}, {math.MaxInt, -1, true}, {math.MaxInt, 0, true}, {0, math.MinInt, true}, {math.MinInt, 0, false}, {math.MinInt, math.MinInt, false}, {math.MaxInt, math.MaxInt, false}, {math.MaxInt, math.MaxInt - 20, true}, {math.MaxInt, math.MaxInt - 19, false}, {math.MinInt + 20, math.MinInt, true}, {math.MinInt + 19, math.MinInt, false}, {math.MinInt, math.MinInt + 20, false}, {math.MinInt, math.MaxInt - 19, false},
	} {
		if lease.Ready(c.now, c.since) != c.want {
			t.Errorf("Ready(%d, %d) is %v", c.now, c.since, !c.want)
		}
	}
}

// P23.2: against great numbers.
func TestReadyAgainstGreatNumbers(t *testing.T) {
	random := rand.New(rand.NewSource(23))
	for range 100000 {
		since := int(random.Uint64() >> random.Intn(64))
		now := since + random.Intn(50) - 15
		if random.Intn(2) == 0 {
			now = int(random.Uint64() >> random.Intn(64))
		}
		apart := new(big.Int).Sub(big.NewInt(int64(now)), big.NewInt(int64(since)))
		if lease.Ready(now, since) != (apart.Cmp(big.NewInt(20)) >= 0) {
			t.Fatalf("Ready(%d, %d)", now, since)
		}
	}
}

// P23.3: whoever waits by one clock finds no lease by another one that goes on by as much as it must.
func TestWhatFollows(t *testing.T) {
	random := rand.New(rand.NewSource(3))
	for range 20000 {
		since, now := random.Intn(1000), random.Intn(1000)
		var l lease.Lease
		l.Grant(now - random.Intn(10)) // granted up to then
		gone := lease.Wait + random.Intn(30)
		least := (gone - api.Slack + api.Rho - 1) / api.Rho
		if !lease.Ready(since+gone, since) || l.Valid(now+least) || l.Left(now+least+random.Intn(3)) != 0 {
			t.Fatalf("from %d on, behind %d ticks, and %d of the other clock's, there is a lease", now, gone, least)
		}
	}
	var l lease.Lease
	l.Grant(5)
	if !l.Valid(5 + (lease.Wait-api.Slack)/api.Rho - 1) {
		t.Error("one tick earlier there is none")
	}
}
