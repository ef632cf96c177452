package view_test

import (
	"math"
	"math/rand"
	"slices"
	"testing"

	"cenotaph/api"
	"cenotaph/mut"
	"cenotaph/stamp"
	"cenotaph/state"
	"cenotaph/view"
)

func at(phys, logic, who int) api.Stamp { return api.Stamp{Phys: phys, Logic: logic, Who: who} }

func put(key, val string, phys int) api.Mut {
	return api.Mut{Table: api.Last, Kind: api.Put, Key: key, Val: val, At: at(phys, 0, 0)}
}

func ttl(key, val string, phys, expiry int) api.Mut {
	m := put(key, val, phys)
	m.Expiry = expiry
	return m
}

func del(key string, phys int) api.Mut {
	return api.Mut{Table: api.Last, Kind: api.Del, Key: key, At: at(phys, 0, 0)}
}

func wipe(key, end string, phys int) api.Mut {
	return api.Mut{Table: api.Last, Kind: api.Wipe, Key: key, End: end, At: at(phys, 0, 0)}
}

func sib(key, val string, phys int, over ...api.Stamp) api.Mut {
	return api.Mut{Table: api.Causal, Kind: api.Put, Key: key, Val: val, At: at(phys, 0, 0), Over: over}
}

func gone(key string, phys int, over ...api.Stamp) api.Mut {
	return api.Mut{Table: api.Causal, Kind: api.Del, Key: key, At: at(phys, 0, 0), Over: over}
}

func row(key, val string, phys int) api.Row {
	return api.Row{Key: key, Val: val, At: at(phys, 0, 0)}
}

// stamps: so many that rise, from the tick 1 on.
func stamps(n int) []api.Stamp {
	var l []api.Stamp
	for i := range n {
		l = append(l, at(i+1, 0, 0))
	}
	return l
}

// P9.1: what one sees of a key of a table, at ticks about its expiry.
func TestGet(t *testing.T) {
	c := state.Of(put("a", "v", 2), ttl("b", "v", 2, 5), del("c", 2), put("d", "v", 2), wipe("d", "e", 3), put("e", "", 3), wipe("e", "f", 3), sib("a", "x", 1), sib("a", "z", 2), sib("a", "y", 2), sib("b", "x", 1), sib("b", "y", 2, at(1, 0, 0)), sib("c", "x", 1), gone("c", 2), gone("d", 2, at(1, 0, 0)), sib("d", "x", 1), sib("e", "x", 1), gone("k", 9, at(1, 0, 0)))
	for _, x := range []struct {
		table api.Table
		key   string
		phys  int
		want  []api.Row
	}{
		{api.Last, "a", 0, []api.Row{row("a", "v", 2)}}, {api.Last, "a", -1, []api.Row{row("a", "v", 2)}}, {api.Last, "a", math.MaxInt, []api.Row{row("a", "v", 2)}}, {api.Last, "a", math.MinInt, []api.Row{row("a", "v", 2)}},
		{api.Last, "b", 4, []api.Row{row("b", "v", 2)}}, {api.Last, "b", 5, nil}, {api.Last, "b", 6, nil}, {api.Last, "b", math.MaxInt, nil}, {api.Last, "b", math.MinInt, []api.Row{row("b", "v", 2)}},
		{api.Last, "c", 0, nil}, {api.Last, "d", 0, nil}, {api.Last, "e", 0, []api.Row{row("e", "", 3)}}, {api.Last, "f", 0, nil}, {api.Last, "", 0, nil}, {api.Last, "k", 0, nil}, {api.Last, "\xff", 0, nil},
		{api.Causal, "a", 9, []api.Row{row("a", "x", 1), row("a", "y", 2), row("a", "z", 2)}}, {api.Causal, "b", 9, []api.Row{row("b", "y", 2)}}, {api.Causal, "c", 9, []api.Row{row("c", "x", 1)}}, {api.Causal, "d", 9, nil}, {api.Causal, "e", 9, []api.Row{row("e", "x", 1)}}, {api.Causal, "k", 9, nil}, {api.Causal, "", 9, nil},
		{0, "a", 9, nil}, {3, "a", 9, nil}, {-1, "a", 9, nil}, {math.MaxInt, "a", 9, nil},
	} {
		if l := view.Get(c, x.table, x.key, x.phys); !slices.Equal(l, x.want) {
			t.Errorf("Get of %q in %d at %d: %v", x.key, x.table, x.phys, l)
		}
	}
	if len(view.Get(state.Content{}, api.Last, "a", 0)) != 0 || len(view.Get(state.Content{}, api.Causal, "a", 0)) != 0 {
		t.Error("one sees something of nothing")
	}
}

// P9.1: all keys from one up to ahead of another one.
func TestScan(t *testing.T) {
	c := state.Of(put("b", "v", 2), put("a", "v", 3), ttl("ab", "v", 2, 5), del("c", 2), put("d", "v", 1), sib("b", "x", 2), sib("b", "y", 1), sib("a", "x", 9), gone("c", 1), sib("d", "x", 1), gone("d", 2, at(1, 0, 0)))
	a, b, d := row("a", "v", 3), row("b", "v", 2), row("d", "v", 1)
	ab := row("ab", "v", 2)
	for _, x := range []struct {
		table    api.Table
		from, to string
		phys     int
		want     []api.Row
	}{
		{api.Last, "a", "e", 4, []api.Row{a, ab, b, d}}, {api.Last, "a", "e", 5, []api.Row{a, b, d}}, {api.Last, "a", "d", 5, []api.Row{a, b}}, {api.Last, "a", "d\x00", 5, []api.Row{a, b, d}}, {api.Last, "a\x00", "b", 4, []api.Row{ab}}, {api.Last, "", "\xff", 4, []api.Row{a, ab, b, d}}, {api.Last, "b", "b", 4, nil}, {api.Last, "b", "a", 4, nil}, {api.Last, "", "", 4, nil}, {api.Last, "a", "", 4, nil}, {api.Last, "c", "d", 4, nil}, {api.Last, "e", "z", 4, nil},
		{api.Causal, "a", "e", 0, []api.Row{row("a", "x", 9), row("b", "y", 1), row("b", "x", 2)}}, {api.Causal, "b", "c", 0, []api.Row{row("b", "y", 1), row("b", "x", 2)}}, {api.Causal, "c", "e", 0, nil}, {api.Causal, "", "b", 0, []api.Row{row("a", "x", 9)}},
		{0, "a", "e", 0, nil}, {3, "a", "e", 0, nil}, {math.MinInt, "a", "e", 0, nil},
	} {
		if l := view.Scan(c, x.table, x.from, x.to, x.phys); !slices.Equal(l, x.want) {
			t.Errorf("Scan of %q to %q in %d at %d: %v", x.from, x.to, x.table, x.phys, l)
		}
	}
}

// P9.1: the keys of which one sees something, which may be left, and gone through again.
func TestKeys(t *testing.T) {
	c := state.Of(put("b", "v", 2), put("a", "v", 3), ttl("ab", "v", 2, 5), del("c", 2), sib("b", "x", 2), sib("b", "y", 1), sib("b", "y", 3), sib("a", "x", 9), gone("c", 1), sib("d", "x", 1), gone("d", 2, at(1, 0, 0)))
	for _, x := range []struct {
		table api.Table
		phys  int
		want  []string
	}{
		{api.Last, 4, []string{"a", "ab", "b"}}, {api.Last, 5, []string{"a", "b"}}, {api.Last, -5, []string{"a", "ab", "b"}}, {api.Causal, 5, []string{"a", "b"}}, {0, 4, nil}, {3, 4, nil}, {-1, 4, nil},
	} {
		keys := view.Keys(c, x.table, x.phys)
		for range 2 {
			for key := range keys {
				if key != "a" {
					t.Error("the first key is", key)
				}
				break
			}
			if l := slices.Collect(keys); !slices.Equal(l, x.want) {
				t.Errorf("Keys of %d at %d: %q", x.table, x.phys, l)
			}
		}
	}
	if l := slices.Collect(view.Keys(state.Content{}, api.Last, 0)); len(l) != 0 {
		t.Error("of nothing there are", l)
	}
}

// P9.2: the stamps of a key's Sibs, one for each, of which as many as a mutation may supersede are told with true.
func TestContext(t *testing.T) {
	full, more := []api.Mut{put("k", "v", 99)}, []api.Mut(nil)
	for _, s := range stamps(api.MaxOver) {
		full = append(full, sib("k", "v", s.Phys))
	}
	more = append(slices.Clone(full), gone("k", api.MaxOver+1))
	late := at(api.MaxOver+2, 0, 0)
	c := state.Of(sib("a", "x", 3), sib("a", "y", 1), sib("a", "x", 1), gone("a", 4, at(2, 0, 0)), sib("a", "z", 2), sib("b", "x", 7, at(1, 0, 0)), put("c", "v", 1), gone("d", 8, at(7, 0, 0)))
	for _, x := range []struct {
		c    state.Content
		key  string
		want []api.Stamp
		ok   bool
	}{
		{c, "a", []api.Stamp{at(1, 0, 0), at(1, 0, 0), at(3, 0, 0), at(4, 0, 0)}, true}, {c, "b", []api.Stamp{at(7, 0, 0)}, true}, {c, "c", nil, true}, {c, "d", []api.Stamp{at(8, 0, 0)}, true}, {c, "", nil, true}, {c, "\xff", nil, true}, {state.Content{}, "a", nil, true},
		{state.Of(full...), "k", stamps(api.MaxOver), true}, {state.Of(more...), "k", stamps(api.MaxOver + 1), false}, {state.Of(more...), "j", nil, true},
		{state.Of(more...).Add(sib("k", "v", late.Phys, at(2, 0, 0))), "k", append(slices.Delete(stamps(api.MaxOver+1), 1, 2), late), false},
		{state.Of(more...).Add(sib("k", "v", late.Phys, at(2, 0, 0), at(4, 0, 0))), "k", append(slices.Delete(slices.Delete(stamps(api.MaxOver+1), 3, 4), 1, 2), late), true},
		{state.Of(more...).Add(sib("j", "v", late.Phys, stamps(9)...)), "k", stamps(api.MaxOver + 1), false},
	} {
		if l, ok := view.Context(x.c, x.key); !slices.Equal(l, x.want) || ok != x.ok {
			t.Errorf("Context of %q: %v, %v", x.key, l, ok)
		}
	}
}

// P9.2: what one doesn't see.
func TestGraves(t *testing.T) {
	for name, x := range map[string]struct {
		l    []api.Mut
		phys int
		want int
	}{
		"nothing":                {nil, 9, 0},
		"a put":                  {[]api.Mut{put("k", "v", 2)}, 9, 0},
		"a put that isn't over":  {[]api.Mut{ttl("k", "v", 2, 5)}, 4, 0},
		"a put that is over":     {[]api.Mut{ttl("k", "v", 2, 5)}, 5, 1},
		"a del":                  {[]api.Mut{del("k", 2)}, 9, 1},
		"a wipe":                 {[]api.Mut{wipe("k", "l", 2)}, 9, 1},
		"what isn't left":        {[]api.Mut{put("k", "v", 1), put("k", "v", 2), wipe("k", "l", 1)}, 9, 1},
		"a put that is wiped":    {[]api.Mut{put("k", "v", 1), wipe("k", "l", 2)}, 9, 1},
		"causal ones":            {[]api.Mut{sib("k", "v", 1), sib("k", "v", 2), sib("j", "v", 1)}, 9, 0},
		"a causal del":           {[]api.Mut{gone("k", 2)}, 9, 1},
		"a del that supersedes":  {[]api.Mut{sib("k", "v", 1), gone("k", 2, at(1, 0, 0))}, 9, 2},
		"a put that supersedes":  {[]api.Mut{sib("k", "v", 1), sib("k", "v", 2, at(1, 0, 0))}, 9, 1},
		"a put of another key":   {[]api.Mut{sib("k", "v", 1), sib("j", "v", 2, at(1, 0, 0))}, 9, 0},
		"all of it":              {[]api.Mut{del("a", 1), put("b", "v", 1), ttl("c", "v", 1, 9), wipe("x", "z", 1), sib("a", "v", 1), gone("b", 1), sib("c", "v", 2, at(1, 0, 0)), sib("c", "v", 1)}, 9, 5},
		"all of it, a tick ago":  {[]api.Mut{del("a", 1), put("b", "v", 1), ttl("c", "v", 1, 9), wipe("x", "z", 1), sib("a", "v", 1), gone("b", 1), sib("c", "v", 2, at(1, 0, 0)), sib("c", "v", 1)}, 8, 4},
		"all of it, for all ago": {[]api.Mut{del("a", 1), ttl("c", "v", 1, 9), sib("a", "v", 1)}, math.MinInt, 1},
	} {
		if n := view.Graves(state.Of(x.l...), x.phys); n != x.want {
			t.Errorf("%s: %d", name, n)
		}
	}
}

// P9.2: this very mutation, and no other one.
func TestShows(t *testing.T) {
	c := state.Of(ttl("k", "v", 2, 5), del("d", 2), wipe("w", "x", 2), sib("k", "v", 1), sib("k", "v", 2, at(1, 0, 0)), sib("k", "w", 2), gone("d", 2))
	for name, x := range map[string]struct {
		m    api.Mut
		phys int
		want bool
	}{
		"it":                   {ttl("k", "v", 2, 5), 4, true},
		"it, expired":          {ttl("k", "v", 2, 5), 5, false},
		"of another expiry":    {ttl("k", "v", 2, 6), 4, false},
		"of none":              {put("k", "v", 2), 4, false},
		"of another value":     {ttl("k", "w", 2, 5), 4, false},
		"of another stamp":     {ttl("k", "v", 1, 5), 4, false},
		"of another key":       {ttl("j", "v", 2, 5), 4, false},
		"a del":                {del("d", 2), 4, false},
		"a del of the key":     {del("k", 2), 4, false},
		"a wipe":               {wipe("w", "x", 2), 4, false},
		"superseded":           {sib("k", "v", 1), 4, false},
		"what supersedes":      {sib("k", "v", 2, at(1, 0, 0)), 4, true},
		"without what it does": {sib("k", "v", 2), 4, false},
		"beside it":            {sib("k", "w", 2), 4, true},
		"an empty over":        {sib("k", "w", 2, []api.Stamp{}...), 4, true},
		"a causal del":         {gone("d", 2), 4, false},
		"nothing":              {api.Mut{}, 4, false},
		"of no table":          {api.Mut{Table: 3, Kind: api.Put, Key: "k", Val: "w", At: at(2, 0, 0)}, 4, false},
	} {
		if view.Shows(c, x.m, x.phys) != x.want {
			t.Errorf("%s: Shows is %v", name, !x.want)
		}
	}
}

// P9.2: rows, one by one.
func TestSame(t *testing.T) {
	l := []api.Row{row("a", "v", 1), row("b", "v", 2)}
	for _, k := range [][]api.Row{nil, l[:1], l[1:], {l[1], l[0]}, {l[0], l[1], l[1]}, {l[0], row("b", "v", 3)}, {l[0], row("b", "w", 2)}, {l[0], row("c", "v", 2)}, {{Key: "a", Val: "v", At: at(1, 0, 1)}, l[1]}} {
		if view.Same(l, k) || view.Same(k, l) {
			t.Errorf("%v is the same as %v", k, l)
		}
		if !view.Same(k, slices.Clone(k)) {
			t.Errorf("%v isn't the same as it", k)
		}
	}
	if !view.Same(nil, []api.Row{}) {
		t.Error("nothing isn't nothing")
	}
}

var keys = []string{"a", "aa", "b", "c", "d"}

// some: a mutation of few keys and few stamps, so that many of them meet.
func some(random *rand.Rand) api.Mut {
	key := keys[random.Intn(len(keys))]
	m := put(key, string(rune('u'+random.Intn(3))), 1+random.Intn(6))
	m.At.Logic, m.At.Who = random.Intn(2), random.Intn(2)
	switch random.Intn(8) {
	case 0:
		i := random.Intn(len(keys) - 1)
		m.Kind, m.Val, m.Key, m.End = api.Wipe, "", keys[i], keys[i+1+random.Intn(len(keys)-1-i)]
	case 1:
		m.Kind, m.Val = api.Del, ""
	case 2, 3, 4:
		m.Table = api.Causal
		for phys := 1; phys < m.At.Phys; phys++ {
			if random.Intn(4) == 0 {
				m.Over = append(m.Over, at(phys, random.Intn(2), random.Intn(2)))
			}
		}
		if random.Intn(3) == 0 {
			m.Kind, m.Val = api.Del, ""
		}
	case 5, 6:
		m.Expiry = random.Intn(8)
	}
	return m
}

// sees: does one see a mutation of some at a tick, as P9.3 words it?
func sees(l []api.Mut, m api.Mut, phys int) bool {
	if m.Kind != api.Put || m.Expiry != 0 && m.Expiry <= phys {
		return false
	}
	return !slices.ContainsFunc(l, func(o api.Mut) bool {
		switch {
		case o.Table != m.Table:
			return false
		case m.Table == api.Causal:
			return o.Key == m.Key && slices.Contains(o.Over, m.At)
		case o.Kind == api.Wipe:
			return o.Key <= m.Key && m.Key < o.End && stamp.Less(m.At, o.At)
		}
		return o.Key == m.Key && mut.Compare(o, m) > 0
	})
}

// model: the mutations of a table, from one key up to ahead of another one, that one sees, by keys, then in their order.
func model(l []api.Mut, table api.Table, from, to string, phys int) []api.Row {
	l = slices.Clone(l)
	slices.SortFunc(l, mut.Compare)
	l = slices.CompactFunc(l, mut.Same)
	var told []api.Row
	for _, key := range keys {
		for _, m := range l {
			if m.Key == key && from <= key && key < to && m.Table == table && sees(l, m, phys) {
				told = append(told, api.Row{Key: key, Val: m.Val, At: m.At})
			}
		}
	}
	return told
}

// P9.1 to P9.3: what one sees of what is left of any mutations is what one sees of all of them.
func TestAgainstModel(t *testing.T) {
	random := rand.New(rand.NewSource(9))
	for range 8000 {
		var l []api.Mut
		c := state.Content{}
		for range random.Intn(16) {
			m := some(random)
			l, c = append(l, m), c.Add(m)
		}
		phys := random.Intn(9)
		seen := 0
		for _, table := range []api.Table{api.Last, api.Causal} {
			var with []string
			for _, key := range keys {
				want := model(l, table, key, key+"\x00", phys)
				if got := view.Get(c, table, key, phys); !view.Same(got, want) {
					t.Fatalf("of %v one sees of %q in %d at %d: %v", l, key, table, phys, got)
				}
				if len(want) > 0 {
					with = append(with, key)
				}
			}
			seen += len(model(l, table, "a", "z", phys))
			if got := slices.Collect(view.Keys(c, table, phys)); !slices.Equal(got, with) {
				t.Fatalf("of %v one sees of %d at %d the keys %q", l, table, phys, got)
			}
			from, to := keys[random.Intn(len(keys))], keys[random.Intn(len(keys))]
			if got := view.Scan(c, table, from, to, phys); !view.Same(got, model(l, table, from, to, phys)) {
				t.Fatalf("of %v one sees from %q to %q in %d at %d: %v", l, from, to, table, phys, got)
			}
		}
		if n := view.Graves(c, phys); n != len(c.All())-seen {
			t.Fatalf("of %v there are %d graves at %d", l, n, phys)
		}
		for _, m := range append(l, some(random)) {
			in := slices.ContainsFunc(l, func(o api.Mut) bool { return mut.Same(o, m) })
			if view.Shows(c, m, phys) != (in && sees(l, m, phys)) {
				t.Fatalf("of %v one sees %v at %d, or not", l, m, phys)
			}
		}
	}
}

// Rule 5: what is handed in stays as it is, and isn't kept.
func TestAnswersAreNew(t *testing.T) {
	fresh := func() state.Content {
		return state.Of(put("a", "v", 1), put("b", "v", 1), sib("a", "v", 1), sib("a", "w", 3, at(2, 0, 0)), wipe("x", "y", 1))
	}
	c := fresh()
	room := slices.Clone(append(c.Cells, del("zz", 9)))
	c.Cells = room[:2]
	list := view.Keys(c, api.Last, 0)
	view.Get(c, api.Causal, "a", 0)[0] = api.Row{}
	view.Scan(c, api.Last, "a", "z", 0)[0] = api.Row{}
	stamps, _ := view.Context(c, "a")
	stamps[0], stamps[1] = api.Stamp{}, api.Stamp{}
	if !state.Same(c, fresh()) || !mut.Same(room[2], del("zz", 9)) {
		t.Error("what was handed in became", c, room)
	}
	c.Cells[0], c.Cells[1] = put("spoilt", "v", 1), del("b", 2)
	if l := slices.Collect(list); !slices.Equal(l, []string{"a", "b"}) {
		t.Error("the content is kept: of", l)
	}
}

// P1: contents that no function told may be handed in, too; many mutations end.
func TestAnyContents(t *testing.T) {
	odd := []api.Mut{{}, wipe("z", "a", 3), sib("a", "v", 1, at(1, 0, 0)), put("b", "\xff", -1), ttl("a", "v", 1, -3), {Table: 7, Kind: -1, Key: "\xff"}}
	for _, c := range []state.Content{{Cells: odd}, {Wipes: odd}, {Sibs: odd}, {Cells: odd, Wipes: odd, Sibs: odd}} {
		for _, table := range []api.Table{api.Last, api.Causal, 0, 7} {
			for _, phys := range []int{math.MinInt, -3, 0, math.MaxInt} {
				view.Get(c, table, "a", phys)
				view.Scan(c, table, "", "\xff", phys)
				for range view.Keys(c, table, phys) {
				}
				view.Graves(c, phys)
				for _, m := range odd {
					view.Shows(c, m, phys)
				}
			}
		}
		view.Context(c, "a")
	}
	var c state.Content
	for i := range 60000 {
		c.Sibs = append(c.Sibs, sib("k", "v", 1+i, at(1+i-i%2, 0, 0)))
	}
	if n := len(view.Get(c, api.Causal, "k", 0)); n != 30000 || view.Graves(c, 0) != 30000 {
		t.Error("one sees", n)
	}
}
