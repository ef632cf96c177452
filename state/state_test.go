package state_test

import (
	"cmp"
	"math"
	"math/rand"
	"slices"
	"testing"

	"cenotaph/api"
	"cenotaph/mut"
	"cenotaph/stamp"
	"cenotaph/state"
)

func at(phys, logic, who int) api.Stamp { return api.Stamp{Phys: phys, Logic: logic, Who: who} }

func put(key, val string, phys int) api.Mut {
	return api.Mut{Table: api.Last, Kind: api.Put, Key: key, Val: val, At: at(phys, 0, 0)}
}

func del(key string, phys int) api.Mut {
	return api.Mut{Table: api.Last, Kind: api.Del, Key: key, At: at(phys, 0, 0)}
}

func wipe(key, end string, phys int) api.Mut {
	return api.Mut{Table: api.Last, Kind: api.Wipe, Key: key, End: end, At: at(phys, 0, 0)}
}

func sib(key, val string, phys int, over ...api.Stamp) api.Mut {
	return api.Mut{Table: api.Causal, Kind: api.Put, Key: key, Val: val, At: at(phys, 0, 0), Over: over}
}

// model: what is left of mutations, as the document words it, one by one.
func model(l []api.Mut) state.Content {
	var c state.Content
	l = slices.DeleteFunc(slices.Clone(l), func(m api.Mut) bool { return !mut.Right(m) })
	for _, m := range l {
		hidden := slices.ContainsFunc(l, func(o api.Mut) bool { return hides(o, m) })
		switch {
		case hidden:
		case m.Kind == api.Wipe:
			c.Wipes = append(c.Wipes, m)
		case m.Table == api.Last:
			c.Cells = append(c.Cells, m)
		default:
			c.Sibs = append(c.Sibs, m)
		}
	}
	byKeys := func(a, b api.Mut) int { return cmp.Or(cmp.Compare(a.Key, b.Key), mut.Compare(a, b)) }
	slices.SortFunc(c.Cells, byKeys)
	slices.SortFunc(c.Wipes, mut.Compare)
	slices.SortFunc(c.Sibs, byKeys)
	c.Cells = slices.CompactFunc(c.Cells, mut.Same)
	c.Wipes = slices.CompactFunc(c.Wipes, mut.Same)
	c.Sibs = slices.CompactFunc(c.Sibs, mut.Same)
	return c
}

// hides: isn't m left, where o is there?
func hides(o, m api.Mut) bool {
	switch {
	case o.Table != api.Last || m.Table != api.Last || mut.Same(o, m):
		return false
	case m.Kind == api.Wipe:
		return o.Kind == api.Wipe && o.Key <= m.Key && o.End >= m.End && !stamp.Less(o.At, m.At)
	case o.Kind == api.Wipe:
		return mut.Covers(o, m.Key) && stamp.Less(m.At, o.At)
	}
	return o.Key == m.Key && mut.Compare(o, m) > 0
}

// same holds two contents against one another list by list, not by the program's Same.
func same(a, b state.Content) bool {
	return slices.EqualFunc(a.Cells, b.Cells, mut.Same) && slices.EqualFunc(a.Wipes, b.Wipes, mut.Same) && slices.EqualFunc(a.Sibs, b.Sibs, mut.Same)
}

// wrong: mutations that may not be.
func wrong() []api.Mut {
	l := []api.Mut{{}, put("", "v", 9), put("a b", "v", 9), put("b", "\xff", 9), put("b", "v", 0), put("b", "v", -1), wipe("c", "b", 9), wipe("a", "", 9), sib("b", "v", 5, at(5, 0, 0)), sib("b", "v", 5, at(7, 0, 0)), del("b", api.MaxPhys+1)}
	for _, change := range []func(*api.Mut){func(m *api.Mut) { m.Table = 3 }, func(m *api.Mut) { m.Table = 0 }, func(m *api.Mut) { m.Kind = 4 }, func(m *api.Mut) { m.Kind = math.MinInt }, func(m *api.Mut) { m.Expiry = -1 }, func(m *api.Mut) { m.Over = []api.Stamp{at(1, 0, 0)} }, func(m *api.Mut) { m.End = "d" }} {
		m := put("b", "v", 9)
		change(&m)
		l = append(l, m)
	}
	w := wipe("a", "z", 9)
	w.Table = api.Causal
	return append(l, w)
}

// some: a mutation of few keys and few stamps, so that many of them meet.
func some(random *rand.Rand) api.Mut {
	keys := []string{"a", "aa", "b", "c", "d", "e"}
	key := keys[random.Intn(len(keys))]
	m := put(key, string(rune('u'+random.Intn(3))), 1+random.Intn(6))
	m.At.Logic, m.At.Who = random.Intn(2), random.Intn(2)
	switch random.Intn(6) {
	case 0, 1:
		i := random.Intn(len(keys) - 1)
		m.Kind, m.Val, m.Key, m.End = api.Wipe, "", keys[i], keys[i+1+random.Intn(len(keys)-1-i)]
	case 2:
		m.Kind, m.Val = api.Del, ""
	case 3:
		m.Table = api.Causal
		for phys := 1; phys < m.At.Phys; phys++ {
			if random.Intn(3) == 0 {
				m.Over = append(m.Over, at(phys, random.Intn(2), random.Intn(2)))
			}
		}
	case 4:
		m.Expiry = random.Intn(3)
	}
	return m
}

func several(random *rand.Rand, most int) []api.Mut {
	var l []api.Mut
	for range random.Intn(most + 1) {
		l = append(l, some(random))
		if random.Intn(8) == 0 {
			l = append(l, l[random.Intn(len(l))])
		}
		if random.Intn(8) == 0 {
			l = append(l, wrong()[random.Intn(len(wrong()))])
		}
	}
	return l
}

// P8.1: what is told to be left, case by case.
func TestOf(t *testing.T) {
	later := put("k", "v", 2)
	later.At.Who = 1
	expiring := put("k", "v", 2)
	expiring.Expiry = 1
	for name, c := range map[string]struct {
		l    []api.Mut
		want state.Content
	}{
		"nothing":                         {nil, state.Content{}},
		"what may not be":                 {wrong(), state.Content{}},
		"the document's":                  {[]api.Mut{put("k", "v", 2), del("k", 3), put("k", "w", 1)}, state.Content{Cells: []api.Mut{del("k", 3)}}},
		"the greater value":               {[]api.Mut{put("k", "v", 2), put("k", "w", 2)}, state.Content{Cells: []api.Mut{put("k", "w", 2)}}},
		"a deletion of the same stamp":    {[]api.Mut{del("k", 2), put("k", "w", 2)}, state.Content{Cells: []api.Mut{del("k", 2)}}},
		"a later writer":                  {[]api.Mut{later, del("k", 2)}, state.Content{Cells: []api.Mut{later}}},
		"a greater expiry":                {[]api.Mut{expiring, put("k", "v", 2)}, state.Content{Cells: []api.Mut{expiring}}},
		"keys that rise":                  {[]api.Mut{put("b", "v", 1), put("aa", "v", 3), put("a", "v", 2), put("Z", "v", 9)}, state.Content{Cells: []api.Mut{put("Z", "v", 9), put("a", "v", 2), put("aa", "v", 3), put("b", "v", 1)}}},
		"a later wipe":                    {[]api.Mut{put("k", "v", 2), wipe("a", "z", 3)}, state.Content{Wipes: []api.Mut{wipe("a", "z", 3)}}},
		"a wipe of the same stamp":        {[]api.Mut{put("k", "v", 3), wipe("a", "z", 3)}, state.Content{Cells: []api.Mut{put("k", "v", 3)}, Wipes: []api.Mut{wipe("a", "z", 3)}}},
		"an earlier wipe":                 {[]api.Mut{wipe("a", "z", 2), del("k", 3)}, state.Content{Cells: []api.Mut{del("k", 3)}, Wipes: []api.Mut{wipe("a", "z", 2)}}},
		"a wipe from the key on":          {[]api.Mut{put("k", "v", 2), wipe("k", "l", 3)}, state.Content{Wipes: []api.Mut{wipe("k", "l", 3)}}},
		"a wipe up to the key":            {[]api.Mut{put("k", "v", 2), wipe("a", "k", 3)}, state.Content{Cells: []api.Mut{put("k", "v", 2)}, Wipes: []api.Mut{wipe("a", "k", 3)}}},
		"a wipe behind the key":           {[]api.Mut{put("k", "v", 2), wipe("k-", "z", 3)}, state.Content{Cells: []api.Mut{put("k", "v", 2)}, Wipes: []api.Mut{wipe("k-", "z", 3)}}},
		"a lesser one doesn't rise":       {[]api.Mut{put("k", "v", 1), put("k", "w", 2), wipe("a", "z", 3)}, state.Content{Wipes: []api.Mut{wipe("a", "z", 3)}}},
		"a wipe within":                   {[]api.Mut{wipe("b", "c", 2), wipe("a", "d", 3)}, state.Content{Wipes: []api.Mut{wipe("a", "d", 3)}}},
		"a later wipe within":             {[]api.Mut{wipe("b", "c", 3), wipe("a", "d", 2)}, state.Content{Wipes: []api.Mut{wipe("a", "d", 2), wipe("b", "c", 3)}}},
		"a wipe within, of that stamp":    {[]api.Mut{wipe("b", "c", 3), wipe("a", "d", 3)}, state.Content{Wipes: []api.Mut{wipe("a", "d", 3)}}},
		"wipes of one key and stamp":      {[]api.Mut{wipe("a", "c", 3), wipe("a", "d", 3), wipe("a", "b", 3)}, state.Content{Wipes: []api.Mut{wipe("a", "d", 3)}}},
		"wipes of one end and stamp":      {[]api.Mut{wipe("c", "d", 3), wipe("a", "d", 3), wipe("b", "d", 3)}, state.Content{Wipes: []api.Mut{wipe("a", "d", 3)}}},
		"wipes that overlap":              {[]api.Mut{wipe("b", "d", 3), wipe("a", "c", 4)}, state.Content{Wipes: []api.Mut{wipe("b", "d", 3), wipe("a", "c", 4)}}},
		"a wipe within two together":      {[]api.Mut{wipe("a", "c", 5), wipe("b", "e", 5), wipe("a", "e", 1)}, state.Content{Wipes: []api.Mut{wipe("a", "e", 1), wipe("a", "c", 5), wipe("b", "e", 5)}}},
		"a wipe twice":                    {[]api.Mut{wipe("a", "c", 5), wipe("a", "c", 5)}, state.Content{Wipes: []api.Mut{wipe("a", "c", 5)}}},
		"wipes that rise by stamps":       {[]api.Mut{wipe("a", "b", 9), wipe("b", "c", 1), wipe("c", "d", 5)}, state.Content{Wipes: []api.Mut{wipe("b", "c", 1), wipe("c", "d", 5), wipe("a", "b", 9)}}},
		"causal ones, wiped or not":       {[]api.Mut{sib("k", "w", 2), wipe("a", "z", 3), sib("k", "v", 1)}, state.Content{Wipes: []api.Mut{wipe("a", "z", 3)}, Sibs: []api.Mut{sib("k", "v", 1), sib("k", "w", 2)}}},
		"causal ones that are superseded": {[]api.Mut{sib("k", "w", 2, at(1, 0, 0)), sib("k", "v", 1)}, state.Content{Sibs: []api.Mut{sib("k", "v", 1), sib("k", "w", 2, at(1, 0, 0))}}},
		"causal ones by keys":             {[]api.Mut{sib("b", "v", 1), sib("a", "v", 2), sib("b", "u", 1), sib("b", "v", 1)}, state.Content{Sibs: []api.Mut{sib("a", "v", 2), sib("b", "u", 1), sib("b", "v", 1)}}},
		"tables apart":                    {[]api.Mut{put("k", "v", 1), sib("k", "v", 2)}, state.Content{Cells: []api.Mut{put("k", "v", 1)}, Sibs: []api.Mut{sib("k", "v", 2)}}},
	} {
		if !same(model(c.l), c.want) {
			t.Fatal(name, ": the model tells", model(c.l))
		}
		if got := state.Of(c.l...); !same(got, c.want) {
			t.Errorf("%s: of %v is left %v", name, c.l, got)
		}
		if got := state.Of(append(wrong(), c.l...)...); !same(got, c.want) {
			t.Errorf("%s: of %v, and wrong ones, is left %v", name, c.l, got)
		}
	}
}

// P8.1, P8.5: of all orders, one by one and joined, the same is left.
func TestInAllOrders(t *testing.T) {
	l := []api.Mut{put("b", "v", 3), del("b", 2), wipe("a", "c", 2), wipe("b", "d", 4), wipe("a", "d", 3), sib("b", "v", 2)}
	want := model(l)
	var all func(had state.Content, parts []state.Content, rest []api.Mut)
	all = func(had state.Content, parts []state.Content, rest []api.Mut) {
		for i, m := range rest {
			others := slices.Delete(slices.Clone(rest), i, i+1)
			all(had.Add(m), append(slices.Clone(parts), state.Of(m)), others)
		}
		if len(rest) > 0 {
			return
		}
		var joined state.Content
		for _, p := range parts {
			joined = state.Join(p, joined)
		}
		if !same(had, want) || !same(joined, want) {
			t.Fatalf("added: %v, joined: %v", had, joined)
		}
	}
	all(state.Content{}, nil, l)
}

// P8.1, P8.5: Of, Add and Join of any mutations, against the model.
func TestAgainstModels(t *testing.T) {
	random := rand.New(rand.NewSource(8))
	for range 20000 {
		l, k := several(random, 12), several(random, 12)
		a, b, both := state.Of(l...), state.Of(k...), model(slices.Concat(l, k))
		if !same(a, model(l)) {
			t.Fatalf("of %v is left %v", l, a)
		}
		one := a
		for _, m := range k {
			one = one.Add(m)
		}
		for name, c := range map[string]state.Content{"Add": one, "Join": state.Join(a, b), "Join turned round": state.Join(b, a), "Join once more": state.Join(state.Join(a, b), a), "Join of itself": state.Join(one, one)} {
			if !same(c, both) {
				t.Fatalf("%s: of %v and %v is left %v", name, l, k, c)
			}
		}
		random.Shuffle(len(l), func(i, j int) { l[i], l[j] = l[j], l[i] })
		if c := state.Of(append(l, l...)...); !same(c, a) {
			t.Fatalf("of %v, twice, is left %v", l, c)
		}
		if !same(state.Join(a, state.Content{}), a) || !same(state.Join(state.Content{}, a), a) || !same(a.Add(api.Mut{}), a) {
			t.Fatalf("%v with nothing is another one", a)
		}
	}
}

// P8.2: All and Own.
func TestAllAndOwn(t *testing.T) {
	c := state.Of(put("b", "v", 5), put("a", "v", 7), wipe("a", "b", 6), sib("a", "w", 3), sib("a", "v", 8), sib("b", "v", 1), sib("a", "v", 3))
	if l := c.All(); !slices.EqualFunc(l, []api.Mut{sib("b", "v", 1), sib("a", "v", 3), sib("a", "w", 3), put("b", "v", 5), wipe("a", "b", 6), put("a", "v", 7), sib("a", "v", 8)}, mut.Same) {
		t.Error("All is", l)
	}
	for key, want := range map[string][]api.Mut{"a": {sib("a", "v", 3), sib("a", "w", 3), sib("a", "v", 8)}, "b": {sib("b", "v", 1)}, "": nil, "aa": nil, "A": nil, "c": nil, "\xff": nil} {
		if l := c.Own(key); !slices.EqualFunc(l, want, mut.Same) {
			t.Errorf("Own(%q) is %v", key, l)
		}
	}
	var none state.Content
	if len(none.All()) != 0 || len(none.Own("a")) != 0 {
		t.Error("there is something of nothing")
	}
}

// P8.2: Covered, by the wipes alone.
func TestCovered(t *testing.T) {
	c := state.Of(wipe("b", "d", 5), wipe("a", "c", 3), del("x", 9), sib("x", "v", 9))
	for _, x := range []struct {
		key  string
		at   api.Stamp
		want bool
	}{
		{"b", at(4, 9, 9), true}, {"b", at(5, 0, 0), false}, {"b", at(5, 0, 1), false}, {"b", at(6, 0, 0), false}, {"c", at(4, 0, 0), true}, {"d", at(1, 0, 0), false}, {"c\xff", at(1, 0, 0), true},
		{"a", at(2, 0, 0), true}, {"a", at(3, 0, 0), false}, {"a", at(4, 0, 0), false}, {"", at(1, 0, 0), false}, {"x", at(1, 0, 0), false}, {"b", at(-1, 0, 0), true}, {"b", at(math.MinInt, 0, 0), true}, {"b", at(math.MaxInt, 0, 0), false}, {"b", api.Stamp{}, true},
	} {
		if state.Covered(c, x.key, x.at) != x.want {
			t.Errorf("Covered(%q, %v) is %v", x.key, x.at, !x.want)
		}
	}
	if state.Covered(state.Content{}, "b", at(1, 0, 0)) {
		t.Error("nothing covers")
	}
}

// P8.2: Superseded, by that key's Sibs alone.
func TestSuperseded(t *testing.T) {
	c := state.Of(sib("a", "v", 5, at(1, 0, 0), at(2, 1, 0)), sib("a", "w", 6, at(3, 0, 7)), sib("b", "v", 7, at(4, 0, 0)), put("a", "v", 9))
	for _, x := range []struct {
		key  string
		at   api.Stamp
		want bool
	}{
		{"a", at(1, 0, 0), true}, {"a", at(2, 1, 0), true}, {"a", at(3, 0, 7), true}, {"b", at(4, 0, 0), true}, {"a", at(4, 0, 0), false}, {"b", at(1, 0, 0), false}, {"a", at(2, 0, 0), false}, {"a", at(5, 0, 0), false}, {"a", at(0, 0, 0), false}, {"", at(1, 0, 0), false}, {"a", at(3, 0, 0), false}, {"c", at(1, 0, 0), false},
	} {
		if state.Superseded(c, x.key, x.at) != x.want {
			t.Errorf("Superseded(%q, %v) is %v", x.key, x.at, !x.want)
		}
	}
	if state.Superseded(state.Content{}, "a", at(1, 0, 0)) {
		t.Error("nothing supersedes")
	}
}

// P8.3: Above and Upto cut at a stamp, which is Upto's.
func TestAboveAndUpto(t *testing.T) {
	random := rand.New(rand.NewSource(3))
	stamps := []api.Stamp{{}, at(-1, 0, 0), at(math.MaxInt, 0, 0), at(math.MinInt, 9, 9), at(3, -1, 0), at(3, 0, math.MaxInt)}
	for phys := 1; phys < 8; phys++ {
		stamps = append(stamps, at(phys, 0, 0), at(phys, 0, 1), at(phys, 1, 0), at(phys, 2, 0))
	}
	for range 500 {
		c := state.Of(several(random, 14)...)
		for _, s := range stamps {
			later := func(m api.Mut) bool { return stamp.Less(s, m.At) }
			earlier := func(m api.Mut) bool { return !later(m) }
			only := func(drop func(api.Mut) bool) state.Content {
				return state.Content{Cells: slices.DeleteFunc(slices.Clone(c.Cells), drop), Wipes: slices.DeleteFunc(slices.Clone(c.Wipes), drop), Sibs: slices.DeleteFunc(slices.Clone(c.Sibs), drop)}
			}
			above, upto := c.Above(s), c.Upto(s)
			if !same(above, only(earlier)) || !same(upto, only(later)) || !same(state.Join(above, upto), c) {
				t.Fatalf("%v at %v: above %v, up to %v", c, s, above, upto)
			}
		}
	}
	c := state.Of(put("k", "v", 3), wipe("a", "b", 3), sib("k", "v", 3))
	if !same(c.Upto(at(3, 0, 0)), c) || len(c.Above(at(3, 0, 0)).All()) != 0 || !same(c.Above(at(2, 9, 9)), c) || len(c.Upto(at(2, 9, 9)).All()) != 0 {
		t.Error("the stamp itself isn't Upto's")
	}
}

// P8.3: Same, by all three.
func TestSame(t *testing.T) {
	l := []api.Mut{put("k", "v", 3), wipe("a", "b", 3), sib("k", "v", 3, at(1, 0, 0))}
	for _, x := range []struct {
		k    []api.Mut
		want bool
	}{
		{l, true}, {append(slices.Clone(l), put("k", "u", 2), l[1]), true}, {append(slices.Clone(l), put("j", "v", 1)), false}, {append(slices.Clone(l), wipe("b", "c", 1)), false}, {append(slices.Clone(l), sib("k", "u", 3)), false},
		{l[1:], false}, {l[:2], false}, {[]api.Mut{l[0], l[2]}, false}, {nil, false}, {[]api.Mut{put("k", "w", 3), l[1], l[2]}, false}, {[]api.Mut{l[0], wipe("a", "c", 3), l[2]}, false}, {[]api.Mut{l[0], l[1], sib("k", "v", 3)}, false},
	} {
		a, b := state.Of(l...), state.Of(x.k...)
		if state.Same(a, b) != x.want || state.Same(b, a) != x.want {
			t.Errorf("Same of %v and %v is %v", a, b, !x.want)
		}
	}
	if !state.Same(state.Content{}, state.Content{Cells: []api.Mut{}, Wipes: []api.Mut{}, Sibs: []api.Mut{}}) || !state.Same(state.Of(), state.Content{}) {
		t.Error("nothing isn't nothing")
	}
}

// spoil writes over all that a content has, and over what lies behind the lengths of its lists.
func spoil(c state.Content) {
	for _, l := range [][]api.Mut{c.Cells, c.Wipes, c.Sibs} {
		spoilRow(l)
	}
}

func spoilRow(l []api.Mut) {
	for i := range l {
		over := l[i].Over[:cap(l[i].Over)]
		for j := range over {
			over[j] = at(99, 99, 99)
		}
	}
	for i := range l[:cap(l)] {
		l[:cap(l)][i] = put("zzz", "spoilt", 99)
	}
}

// Rule 5: what is handed in stays as it is, and isn't kept; no two answers, and no two lists, share memory.
func TestAnswersAreNew(t *testing.T) {
	over := []api.Stamp{at(1, 0, 0), at(2, 0, 0), at(3, 0, 0)}
	l := []api.Mut{put("k", "v", 3), wipe("a", "b", 3), sib("k", "v", 3, over[:2]...), sib("j", "v", 3, over[:2]...)}
	l[0].Over = over[:0]
	room := append(slices.Clone(l), del("k", 9))
	fresh := func() state.Content { return state.Of(mut.Copies(room[:4])...) }
	want := fresh()
	for name, of := range map[string]func(c state.Content) state.Content{
		"Of":          func(c state.Content) state.Content { return state.Of(room[:4]...) },
		"Add":         func(c state.Content) state.Content { return c.Add(room[2]) },
		"Add nothing": func(c state.Content) state.Content { return c.Add(api.Mut{}) },
		"Join":        func(c state.Content) state.Content { return state.Join(c, c) },
		"Join none":   func(c state.Content) state.Content { return state.Join(c, state.Content{}) },
		"Above":       func(c state.Content) state.Content { return c.Above(api.Stamp{}) },
		"Upto":        func(c state.Content) state.Content { return c.Upto(at(9, 0, 0)) },
	} {
		c := fresh()
		got := of(c)
		if !same(got, want) {
			t.Fatal(name, "is", got)
		}
		got.Cells = append(got.Cells, del("zz", 1))
		got.Wipes = append(got.Wipes, del("zz", 1))
		if !slices.EqualFunc(got.Sibs, want.Sibs, mut.Same) || !slices.EqualFunc(got.Wipes[:1], want.Wipes, mut.Same) {
			t.Error(name, ": two lists share memory:", got)
		}
		got.Sibs[0].Over[0] = at(9, 9, 9)
		if !mut.Same(got.Sibs[1], want.Sibs[1]) {
			t.Error(name, ": two mutations share memory:", got)
		}
		spoil(got)
		if !same(c, want) {
			t.Error(name, ": what came of a content shares memory with it:", c)
		}
	}
	c := fresh()
	spoilRow(c.All())
	spoilRow(c.Own("k"))
	if !same(c, want) {
		t.Error("All or Own share memory with the content:", c)
	}
	if !slices.EqualFunc(room, append(slices.Clone(l), del("k", 9)), mut.Same) || !slices.Equal(over, []api.Stamp{at(1, 0, 0), at(2, 0, 0), at(3, 0, 0)}) {
		t.Error("what was handed in became", room, over)
	}
}

// P1: many mutations end, too.
func TestMany(t *testing.T) {
	var l []api.Mut
	name := func(i int) string {
		b := []byte("kaaaaaa")
		for j := len(b) - 1; i > 0; i, j = i/26, j-1 {
			b[j] = byte('a' + i%26)
		}
		return string(b)
	}
	for i := range 30000 {
		l = append(l, wipe(name(i), name(i+100), 1+i), put(name(i+3), "v", 40000-i), sib(name(i/9), "v", 1+i))
	}
	c := state.Of(l...)
	if len(c.Wipes) != 30000 || len(c.Sibs) != 30000 || len(c.Cells) == 0 || len(c.Cells) == 30000 {
		t.Error(len(c.Wipes), len(c.Sibs), len(c.Cells))
	}
	for _, m := range c.Cells[len(c.Cells)-100:] {
		if state.Covered(c, m.Key, m.At) {
			t.Error("it is covered:", m)
		}
	}
}

// P1: contents that no function told may be handed in, too.
func TestContentsOfNoFunction(t *testing.T) {
	odd := state.Content{Cells: append(wrong(), put("z", "v", 1), put("a", "v", 1)), Wipes: append(wrong(), put("b", "v", 2)), Sibs: append(wrong(), sib("z", "v", 1, at(3, 0, 0)), wipe("a", "z", 3))}
	odd.All()
	odd.Own("z")
	odd.Above(at(1, 0, 0))
	odd.Upto(at(1, 0, 0))
	odd.Add(put("k", "v", 1))
	state.Join(odd, odd)
	state.Covered(odd, "b", at(1, 0, 0))
	state.Superseded(odd, "z", at(1, 0, 0))
	state.Same(odd, odd)
	state.Put(nil, odd)
}
