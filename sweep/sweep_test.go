package sweep_test

import (
	"math"
	"math/rand"
	"slices"
	"testing"

	"cenotaph/api"
	"cenotaph/mut"
	"cenotaph/stamp"
	"cenotaph/state"
	"cenotaph/sweep"
	"cenotaph/view"
)

func at(phys, logic, who int) api.Stamp { return api.Stamp{Phys: phys, Logic: logic, Who: who} }

func put(key, val string, phys int) api.Mut {
	return api.Mut{Table: api.Last, Kind: api.Put, Key: key, Val: val, At: at(phys, 0, 0)}
}

func ttl(key, val string, phys, expiry int) api.Mut {
	m := put(key, val, phys)
	m.Expiry = expiry
	return m
}

func del(key string, phys int) api.Mut {
	return api.Mut{Table: api.Last, Kind: api.Del, Key: key, At: at(phys, 0, 0)}
}

func wipe(key, end string, phys int) api.Mut {
	return api.Mut{Table: api.Last, Kind: api.Wipe, Key: key, End: end, At: at(phys, 0, 0)}
}

func sib(key, val string, phys int, over ...api.Stamp) api.Mut {
	return api.Mut{Table: api.Causal, Kind: api.Put, Key: key, Val: val, At: at(phys, 0, 0), Over: over}
}

func gone(key string, phys int, over ...api.Stamp) api.Mut {
	return api.Mut{Table: api.Causal, Kind: api.Del, Key: key, At: at(phys, 0, 0), Over: over}
}

func same(a, b []api.Mut) bool { return slices.EqualFunc(a, b, mut.Same) }

// holds tells what the four calls that go by a floor tell of a content, where these are its dead ones, rising.
func holds(t *testing.T, name string, c state.Content, floor api.Stamp, dead []api.Mut) {
	t.Helper()
	is := func(m api.Mut) bool {
		return slices.ContainsFunc(dead, func(d api.Mut) bool { return mut.Same(d, m) })
	}
	rest := func(l []api.Mut) []api.Mut { return slices.DeleteFunc(slices.Clone(l), is) }
	got := sweep.Sweep(c, floor)
	if !same(got.Cells, rest(c.Cells)) || !same(got.Wipes, rest(c.Wipes)) || !same(got.Sibs, rest(c.Sibs)) {
		t.Errorf("%s: of %v is left, below %v, %v", name, c, floor, got)
	}
	if l := sweep.Dropped(c, floor); !same(l, dead) {
		t.Errorf("%s: of %v is dropped, below %v, %v", name, c, floor, l)
	}
	if sweep.Swept(c, floor) != (len(dead) == 0) {
		t.Errorf("%s: %v is swept below %v, or not", name, c, floor)
	}
	waste := 0
	if all := len(c.All()); all > 0 {
		waste = 100 * len(dead) / all
	}
	if n := sweep.Waste(c, floor); n != waste {
		t.Errorf("%s: the waste of %v below %v is %d", name, c, floor, n)
	}
}

// P10.1: which mutations are dead below a floor.
func TestDead(t *testing.T) {
	floor := at(5, 2, 1)
	late := func(m api.Mut, s api.Stamp) api.Mut {
		m.At = s
		return m
	}
	for name, x := range map[string]struct {
		l    []api.Mut
		dead []api.Mut
	}{
		"nothing":                        {nil, nil},
		"a put":                          {[]api.Mut{put("k", "v", 3)}, nil},
		"a del":                          {[]api.Mut{del("k", 3)}, []api.Mut{del("k", 3)}},
		"a del at the floor":             {[]api.Mut{late(del("k", 0), floor)}, []api.Mut{late(del("k", 0), floor)}},
		"a del behind, by Who":           {[]api.Mut{late(del("k", 0), at(5, 2, 2))}, nil},
		"a del behind, by Logic":         {[]api.Mut{late(del("k", 0), at(5, 3, 0))}, nil},
		"a del behind, by Phys":          {[]api.Mut{late(del("k", 0), at(6, 0, 0))}, nil},
		"a del ahead, by Who":            {[]api.Mut{late(del("k", 0), at(5, 2, 0))}, []api.Mut{late(del("k", 0), at(5, 2, 0))}},
		"a wipe":                         {[]api.Mut{wipe("a", "z", 5)}, []api.Mut{wipe("a", "z", 5)}},
		"a wipe behind":                  {[]api.Mut{wipe("a", "z", 6)}, nil},
		"a put that is over":             {[]api.Mut{ttl("k", "v", 3, 4)}, []api.Mut{ttl("k", "v", 3, 4)}},
		"a put that is over just now":    {[]api.Mut{ttl("k", "v", 3, 5)}, []api.Mut{ttl("k", "v", 3, 5)}},
		"a put that isn't over yet":      {[]api.Mut{ttl("k", "v", 3, 6)}, nil},
		"a put behind that is over":      {[]api.Mut{late(ttl("k", "v", 0, 5), at(5, 3, 0))}, nil},
		"a put that hides":               {[]api.Mut{put("k", "v", 1), put("k", "w", 3)}, nil},
		"what is hidden isn't there":     {[]api.Mut{put("k", "v", 1), del("k", 3), wipe("a", "z", 4)}, []api.Mut{wipe("a", "z", 4)}},
		"a causal put":                   {[]api.Mut{sib("k", "v", 3)}, nil},
		"a causal del":                   {[]api.Mut{gone("k", 3)}, []api.Mut{gone("k", 3)}},
		"a causal del behind":            {[]api.Mut{gone("k", 6)}, nil},
		"one that is superseded":         {[]api.Mut{sib("k", "v", 3), sib("k", "w", 4, at(3, 0, 0))}, []api.Mut{sib("k", "v", 3)}},
		"superseded from behind":         {[]api.Mut{sib("k", "v", 3), sib("k", "w", 9, at(3, 0, 0))}, []api.Mut{sib("k", "v", 3)}},
		"superseded by a del":            {[]api.Mut{sib("k", "v", 3), gone("k", 4, at(3, 0, 0))}, []api.Mut{sib("k", "v", 3), gone("k", 4, at(3, 0, 0))}},
		"superseded by a del behind":     {[]api.Mut{sib("k", "v", 3), gone("k", 6, at(3, 0, 0))}, []api.Mut{sib("k", "v", 3)}},
		"superseded by one superseded":   {[]api.Mut{sib("k", "u", 2), sib("k", "v", 3, at(2, 0, 0)), sib("k", "w", 4, at(3, 0, 0))}, []api.Mut{sib("k", "u", 2), sib("k", "v", 3, at(2, 0, 0))}},
		"superseded, all behind":         {[]api.Mut{sib("k", "v", 6), sib("k", "w", 7, at(6, 0, 0))}, nil},
		"superseded by another key":      {[]api.Mut{sib("j", "v", 3), sib("k", "w", 4, at(3, 0, 0))}, nil},
		"a cell isn't superseded":        {[]api.Mut{put("k", "v", 3), sib("k", "w", 4, at(3, 0, 0))}, nil},
		"two of the stamp":               {[]api.Mut{sib("k", "u", 3), sib("k", "v", 3), sib("k", "w", 4, at(3, 0, 0))}, []api.Mut{sib("k", "u", 3), sib("k", "v", 3)}},
		"of a stamp nearby":              {[]api.Mut{sib("k", "v", 3), sib("k", "w", 4, at(3, 0, 1))}, nil},
		"they rise by stamps":            {[]api.Mut{del("a", 4), gone("b", 3), wipe("x", "z", 2), ttl("c", "v", 1, 2), del("d", 6), put("e", "v", 5)}, []api.Mut{ttl("c", "v", 1, 2), wipe("x", "z", 2), gone("b", 3), del("a", 4)}},
		"three of seven":                 {[]api.Mut{del("a", 1), del("b", 1), del("c", 1), put("d", "v", 1), put("e", "v", 1), put("f", "v", 1), put("g", "v", 1)}, []api.Mut{del("a", 1), del("b", 1), del("c", 1)}},
		"wipes and cells of that stamp":  {[]api.Mut{put("k", "v", 3), wipe("a", "z", 3)}, []api.Mut{wipe("a", "z", 3)}},
		"what a wipe behind doesn't hit": {[]api.Mut{del("k", 3), wipe("l", "z", 9)}, []api.Mut{del("k", 3)}},
	} {
		holds(t, name, state.Of(x.l...), floor, x.dead)
	}
}

// P10.1: floors of any kind.
func TestFloors(t *testing.T) {
	c := state.Of(del("a", 1), ttl("b", "v", 2, 9), wipe("c", "d", 3), sib("e", "v", 4), put("f", "v", 5))
	all := c.All()
	for _, x := range []struct {
		floor api.Stamp
		dead  []api.Mut
	}{
		{api.Stamp{}, nil}, {at(0, 9, 9), nil}, {at(1, -1, 0), nil}, {at(1, 0, -1), nil}, {at(-1, 0, 0), nil}, {at(math.MinInt, 0, 0), nil},
		{at(1, 0, 0), all[:1]}, {at(2, 9, 9), all[:1]}, {at(3, 0, 0), []api.Mut{all[0], all[2]}}, {at(8, 0, 0), []api.Mut{all[0], all[2]}}, {at(9, 0, 0), all[:3]}, {at(math.MaxInt, math.MaxInt, math.MaxInt), all[:3]},
	} {
		holds(t, "a floor", c, x.floor, x.dead)
	}
	if n := sweep.Waste(c, at(9, 0, 0)); n != 60 {
		t.Error("of 3 of 5 it is", n)
	}
	if n := sweep.Waste(state.Of(del("a", 1), put("b", "v", 1), put("c", "v", 1)), at(1, 0, 0)); n != 33 {
		t.Error("of 1 of 3 it is", n)
	}
	if n := sweep.Waste(state.Of(del("a", 1), del("b", 1), put("c", "v", 1)), at(1, 0, 0)); n != 66 {
		t.Error("of 2 of 3 it is", n)
	}
	if n := sweep.Waste(state.Of(del("a", 1)), at(1, 0, 0)); n != 100 {
		t.Error("of all it is", n)
	}
	if n := sweep.Waste(state.Content{}, at(1, 0, 0)); n != 0 {
		t.Error("of nothing it is", n)
	}
}

// P10.1: what is expired at a tick, wherever a floor is.
func TestExpired(t *testing.T) {
	c := state.Of(ttl("b", "v", 1, 5), ttl("a", "v", 3, 5), ttl("c", "v", 2, 6), put("d", "v", 1), del("e", 1), wipe("x", "z", 1), sib("a", "v", 1), gone("b", 1))
	five := []api.Mut{ttl("b", "v", 1, 5), ttl("a", "v", 3, 5)}
	six := []api.Mut{ttl("b", "v", 1, 5), ttl("c", "v", 2, 6), ttl("a", "v", 3, 5)}
	for phys, want := range map[int][]api.Mut{math.MinInt: nil, -1: nil, 0: nil, 4: nil, 5: five, 6: six, 7: six, math.MaxInt: six} {
		if l := sweep.Expired(c, phys); !same(l, want) {
			t.Errorf("at %d are expired %v", phys, l)
		}
	}
	if l := sweep.Expired(state.Content{}, 9); len(l) != 0 {
		t.Error("of nothing are expired", l)
	}
}

var keys = []string{"a", "aa", "b", "c", "d"}

// some: a mutation of few keys and few stamps from a tick on, so that many of them meet.
func some(random *rand.Rand, from int) api.Mut {
	key := keys[random.Intn(len(keys))]
	m := put(key, string(rune('u'+random.Intn(3))), from+random.Intn(6))
	m.At.Logic, m.At.Who = random.Intn(2), random.Intn(2)
	switch random.Intn(8) {
	case 0:
		i := random.Intn(len(keys) - 1)
		m.Kind, m.Val, m.Key, m.End = api.Wipe, "", keys[i], keys[i+1+random.Intn(len(keys)-1-i)]
	case 1:
		m.Kind, m.Val = api.Del, ""
	case 2, 3, 4:
		m.Table = api.Causal
		for phys := 1; phys < m.At.Phys; phys++ {
			if random.Intn(4) == 0 {
				m.Over = append(m.Over, at(phys, random.Intn(2), random.Intn(2)))
			}
		}
		if random.Intn(3) == 0 {
			m.Kind, m.Val = api.Del, ""
		}
	case 5, 6:
		m.Expiry = m.At.Phys + random.Intn(5)
	}
	return m
}

// dead: is a mutation of a content dead, as the document words it?
func dead(c state.Content, m api.Mut, floor api.Stamp) bool {
	expired := m.Kind == api.Put && m.Expiry != 0 && m.Expiry <= floor.Phys
	return !stamp.Less(floor, m.At) && (m.Kind != api.Put || expired || m.Table == api.Causal && state.Superseded(c, m.Key, m.At))
}

// P10.1: of any contents, against the document's words.
func TestAgainstModel(t *testing.T) {
	random := rand.New(rand.NewSource(10))
	for range 4000 {
		var c state.Content
		for range random.Intn(16) {
			c = c.Add(some(random, 1))
		}
		floor := at(random.Intn(9), random.Intn(2), random.Intn(2))
		gone := slices.DeleteFunc(c.All(), func(m api.Mut) bool { return !dead(c, m, floor) })
		holds(t, "any content", c, floor, gone)
		if t.Failed() {
			return
		}
		if !sweep.Swept(sweep.Sweep(c, floor), floor) {
			t.Fatalf("%v, swept below %v, isn't swept", c, floor)
		}
	}
}

// alike: does one see the same of two contents, at ticks from one on?
func alike(a, b state.Content, from int) bool {
	for phys := from; phys < from+12; phys++ {
		for _, table := range []api.Table{api.Last, api.Causal} {
			if !view.Same(view.Scan(a, table, "a", "z", phys), view.Scan(b, table, "a", "z", phys)) {
				return false
			}
		}
	}
	return true
}

// P10.2: whatever comes behind the floor, one sees of what was swept what one sees of all; so it stays when floors rise.
func TestNothingRises(t *testing.T) {
	random := rand.New(rand.NewSource(11))
	dropped := 0
	for range 1200 {
		var all, swept state.Content
		var floor api.Stamp
		for range 4 {
			for range random.Intn(8) {
				m := some(random, max(floor.Phys, 1))
				if stamp.Less(floor, m.At) {
					all, swept = all.Add(m), swept.Add(m)
				}
				if !alike(all, swept, floor.Phys) {
					t.Fatalf("behind the floor %v there is of %v %v", floor, all, swept)
				}
			}
			floor = stamp.Max(floor, at(floor.Phys+random.Intn(4), random.Intn(2), random.Intn(2)))
			dropped += len(sweep.Dropped(swept, floor))
			swept = sweep.Sweep(swept, floor)
			if !alike(all, swept, floor.Phys) {
				t.Fatalf("swept below %v there is of %v %v", floor, all, swept)
			}
		}
	}
	if dropped < 3000 {
		t.Error("few were dropped:", dropped)
	}
}

// P10.1: the example, and a floor just ahead of it.
func TestExample(t *testing.T) {
	c := state.Of(put("k", "v", 1), del("k", 2))
	for _, phys := range []int{2, 3} {
		if l := sweep.Sweep(c, at(phys, 0, 0)).All(); len(l) != 0 {
			t.Errorf("swept below %d there is left %v", phys, l)
		}
	}
	if l := sweep.Sweep(c, at(1, 9, 9)).All(); !same(l, []api.Mut{del("k", 2)}) {
		t.Error("swept below 1 there is left", l)
	}
}

// spoil writes over mutations, and over what lies behind their lists' lengths.
func spoil(l []api.Mut) {
	for i := range l {
		over := l[i].Over[:cap(l[i].Over)]
		for j := range over {
			over[j] = at(99, 99, 99)
		}
	}
	for i := range l[:cap(l)] {
		l[:cap(l)][i] = put("zzz", "spoilt", 99)
	}
}

// Rule 5: what is handed in stays as it is, and isn't shared with what is answered.
func TestAnswersAreNew(t *testing.T) {
	fresh := func() state.Content {
		return state.Of(put("a", "v", 1), ttl("b", "v", 1, 2), del("c", 1), wipe("x", "y", 1), wipe("y", "z", 9), sib("a", "v", 1), sib("a", "w", 2, at(1, 0, 0)), sib("a", "x", 3, at(1, 0, 0), at(2, 0, 0)))
	}
	c := fresh()
	room := slices.Clone(append(c.Cells, del("zz", 9)))
	c.Cells = room[:3]
	for _, floor := range []api.Stamp{{}, at(2, 0, 0), at(9, 0, 0)} {
		got := sweep.Sweep(c, floor)
		spoil(got.Cells)
		spoil(got.Wipes)
		spoil(got.Sibs)
		spoil(sweep.Dropped(c, floor))
		spoil(sweep.Expired(c, 9))
		sweep.Swept(c, floor)
		sweep.Waste(c, floor)
		if !state.Same(c, fresh()) || !mut.Same(room[3], del("zz", 9)) {
			t.Fatal("what was handed in became", c, room)
		}
	}
	l := sweep.Dropped(c, at(9, 0, 0))
	for _, m := range l {
		for i := range m.Over {
			m.Over[i] = at(7, 7, 7)
		}
	}
	if !state.Same(c, fresh()) {
		t.Error("what was dropped shares memory with", c)
	}
}

// P1: contents that no function told may be handed in, too; many mutations end.
func TestAnyContents(t *testing.T) {
	odd := []api.Mut{{}, wipe("z", "a", 3), sib("a", "v", 1, at(1, 0, 0)), put("b", "\xff", -1), ttl("a", "v", 1, -3), {Table: 7, Kind: -1, Key: "\xff"}}
	for _, c := range []state.Content{{Cells: odd}, {Wipes: odd}, {Sibs: odd}, {Cells: odd, Wipes: odd, Sibs: odd}} {
		for _, phys := range []int{math.MinInt, -3, 0, 1, math.MaxInt} {
			l := sweep.Dropped(c, at(phys, 0, 0))
			if n := len(sweep.Sweep(c, at(phys, 0, 0)).All()); n+len(l) != len(c.All()) {
				t.Errorf("of %v %d are left, and %d dropped", c, n, len(l))
			}
			sweep.Expired(c, phys)
			sweep.Swept(c, at(phys, 0, 0))
			sweep.Waste(c, at(phys, 0, 0))
		}
	}
	var c state.Content
	for i := range 60000 {
		c.Sibs = append(c.Sibs, sib("k", "v", 1+i, at(1+i-i%2, 0, 0)))
	}
	floor := at(60000, 0, 0)
	if sweep.Waste(c, floor) != 50 || len(sweep.Sweep(c, floor).Sibs) != 30000 || sweep.Swept(c, floor) {
		t.Error("of 60000 are dropped", len(sweep.Dropped(c, floor)))
	}
}
