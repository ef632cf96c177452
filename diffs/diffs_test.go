package diffs_test

import (
	"cmp"
	"math"
	"math/rand"
	"slices"
	"testing"

	"cenotaph/api"
	"cenotaph/diffs"
	"cenotaph/mut"
	"cenotaph/state"
)

func at(phys, logic, who int) api.Stamp { return api.Stamp{Phys: phys, Logic: logic, Who: who} }

func put(key, val string, phys int) api.Mut {
	return api.Mut{Table: api.Last, Kind: api.Put, Key: key, Val: val, At: at(phys, 0, 0)}
}

func del(key string, phys int) api.Mut {
	return api.Mut{Table: api.Last, Kind: api.Del, Key: key, At: at(phys, 0, 0)}
}

func wipe(key, end string, phys int) api.Mut {
	return api.Mut{Table: api.Last, Kind: api.Wipe, Key: key, End: end, At: at(phys, 0, 0)}
}

func sib(key, val string, phys int, over ...api.Stamp) api.Mut {
	return api.Mut{Table: api.Causal, Kind: api.Put, Key: key, Val: val, At: at(phys, 0, 0), Over: over}
}

func entry(key string, phys int) diffs.Entry {
	return diffs.Entry{Key: key, At: at(phys, 0, 0)}
}

// P36.1: entries stand by keys, then by stamps.
func TestCompare(t *testing.T) {
	rising := []diffs.Entry{{}, {Key: "A", At: at(math.MaxInt, 0, 0)}, {Key: "a", At: at(-1, 9, 9)}, {Key: "a"}, {Key: "a", At: at(0, 0, 1)}, {Key: "a", At: at(0, 1, 0)}, entry("a", 1), entry("aa", 0), entry("b", math.MinInt), entry("b", math.MaxInt), entry("\xff", 0)}
	for i, a := range rising {
		for j, b := range rising {
			if c := diffs.Compare(a, b); c != cmp.Compare(i, j) {
				t.Errorf("Compare of %v and %v is %d", a, b, c)
			}
		}
	}
}

// P36.1: the entries of all three kinds of what is left, each once.
func TestManifest(t *testing.T) {
	for name, c := range map[string]struct {
		l    []api.Mut
		want []diffs.Entry
	}{
		"nothing":            {nil, nil},
		"what is left":       {[]api.Mut{put("b", "v", 1), del("b", 2), put("a", "v", 9)}, []diffs.Entry{entry("a", 9), entry("b", 2)}},
		"all kinds":          {[]api.Mut{put("b", "v", 5), wipe("a", "c", 4), sib("b", "v", 6), sib("b", "v", 3), put("d", "v", 1)}, []diffs.Entry{entry("a", 4), entry("b", 3), entry("b", 5), entry("b", 6), entry("d", 1)}},
		"of one key and one": {[]api.Mut{put("a", "v", 4), wipe("a", "c", 4), sib("a", "v", 4), sib("a", "w", 4), sib("a", "w", 5)}, []diffs.Entry{entry("a", 4), entry("a", 5)}},
	} {
		if l := diffs.Manifest(state.Of(c.l...)); !slices.Equal(l, c.want) {
			t.Errorf("%s: %v", name, l)
		}
	}
}

// P36.1: does each stand behind the one ahead?
func TestSorted(t *testing.T) {
	a, b, c := entry("a", 9), entry("b", 1), entry("b", 2)
	for _, x := range []struct {
		l    []diffs.Entry
		want bool
	}{
		{nil, true}, {[]diffs.Entry{}, true}, {[]diffs.Entry{c}, true}, {[]diffs.Entry{a, b, c}, true}, {[]diffs.Entry{a, c}, true}, {[]diffs.Entry{b, a}, false}, {[]diffs.Entry{a, c, b}, false}, {[]diffs.Entry{a, a}, false}, {[]diffs.Entry{a, b, b}, false}, {[]diffs.Entry{b, c, a}, false}, {[]diffs.Entry{a, c, b, c}, false},
	} {
		if diffs.Sorted(x.l) != x.want {
			t.Errorf("Sorted of %v is %v", x.l, !x.want)
		}
	}
}

// P36.1: just in the first, just in the second, in both.
func TestDiff(t *testing.T) {
	a, b, b2, c := entry("a", 1), entry("b", 1), entry("b", 2), entry("c", 1)
	for _, x := range []struct {
		a, b, justA, justB, both []diffs.Entry
	}{
		{nil, nil, nil, nil, nil},
		{[]diffs.Entry{a, b}, []diffs.Entry{b, c}, []diffs.Entry{a}, []diffs.Entry{c}, []diffs.Entry{b}},
		{[]diffs.Entry{a, b}, nil, []diffs.Entry{a, b}, nil, nil},
		{[]diffs.Entry{a, b, c}, []diffs.Entry{a, b, c}, nil, nil, []diffs.Entry{a, b, c}},
		{[]diffs.Entry{b}, []diffs.Entry{b2}, []diffs.Entry{b}, []diffs.Entry{b2}, nil},
		{[]diffs.Entry{a, b2, c}, []diffs.Entry{b}, []diffs.Entry{a, b2, c}, []diffs.Entry{b}, nil},
		{[]diffs.Entry{a}, []diffs.Entry{b, b2, c}, []diffs.Entry{a}, []diffs.Entry{b, b2, c}, nil},
		{[]diffs.Entry{a, c}, []diffs.Entry{a, b, b2, c}, nil, []diffs.Entry{b, b2}, []diffs.Entry{a, c}},
	} {
		justA, justB, both := diffs.Diff(x.a, x.b)
		if !slices.Equal(justA, x.justA) || !slices.Equal(justB, x.justB) || !slices.Equal(both, x.both) {
			t.Errorf("Diff of %v and %v: %v; %v; %v", x.a, x.b, justA, justB, both)
		}
		justB, justA, both = diffs.Diff(x.b, x.a)
		if !slices.Equal(justA, x.justA) || !slices.Equal(justB, x.justB) || !slices.Equal(both, x.both) {
			t.Errorf("Diff of %v and %v: %v; %v; %v", x.b, x.a, justB, justA, both)
		}
	}
}

// P36.2: the mutations whose entries are in a row, by layer 7's order.
func TestPick(t *testing.T) {
	l := []api.Mut{put("z", "v", 1), sib("a", "v", 2), put("a", "v", 4), wipe("a", "c", 4), sib("a", "v", 4), sib("a", "w", 4), put("b", "v", 5)}
	c := state.Of(l...)
	for _, x := range []struct {
		l    []diffs.Entry
		want []api.Mut
	}{
		{nil, nil}, {[]diffs.Entry{entry("a", 4)}, l[2:6]}, {[]diffs.Entry{entry("a", 2), entry("z", 1)}, l[:2]}, {diffs.Manifest(c), l}, {[]diffs.Entry{entry("a", 3), entry("b", 4), entry("c", 5), entry("z", 2)}, nil}, {[]diffs.Entry{{}, {Key: "b", At: at(5, 0, 1)}}, nil}, {[]diffs.Entry{entry("", 5), entry("a", 5), entry("b", 5), entry("z", 9)}, l[6:]},
	} {
		if got := diffs.Pick(c, x.l); !slices.EqualFunc(got, x.want, mut.Same) {
			t.Errorf("Pick of %v is %v", x.l, got)
		}
	}
	if got := diffs.Pick(state.Content{}, []diffs.Entry{entry("a", 1)}); len(got) != 0 {
		t.Error("of nothing it picked", got)
	}
}

// some: a mutation of few keys and stamps.
func some(random *rand.Rand) api.Mut {
	keys := []string{"a", "aa", "b", "c", "d"}
	m := put(keys[random.Intn(len(keys))], string(rune('u'+random.Intn(2))), 1+random.Intn(6))
	switch random.Intn(5) {
	case 0:
		m.Kind, m.Val, m.End = api.Wipe, "", "e"
	case 1:
		m.Kind, m.Val = api.Del, ""
	case 2, 3:
		m.Table = api.Causal
		if m.At.Phys > 1 && random.Intn(2) == 0 {
			m.Over = []api.Stamp{at(1+random.Intn(m.At.Phys-1), 0, 0)}
		}
	}
	return m
}

// has: is there one of an entry?
func has(c state.Content, m api.Mut) bool {
	return slices.ContainsFunc(c.All(), func(o api.Mut) bool { return o.Key == m.Key && o.At == m.At })
}

// P36.1, P36.2: any contents, against their mutations one by one.
func TestSync(t *testing.T) {
	random := rand.New(rand.NewSource(36))
	for range 5000 {
		var a, b state.Content
		for range random.Intn(12) {
			m := some(random)
			switch random.Intn(3) {
			case 0:
				a = a.Add(m)
			case 1:
				b = b.Add(m)
			default:
				a, b = a.Add(m), b.Add(m)
			}
		}
		toA, toB := diffs.Sync(a, b)
		wantA := slices.DeleteFunc(b.All(), func(m api.Mut) bool { return has(a, m) })
		wantB := slices.DeleteFunc(a.All(), func(m api.Mut) bool { return has(b, m) })
		if !slices.EqualFunc(toA, wantA, mut.Same) || !slices.EqualFunc(toB, wantB, mut.Same) {
			t.Fatalf("Sync of %v and %v: %v; %v", a, b, toA, toB)
		}
		l, k := diffs.Manifest(a), diffs.Manifest(b)
		justA, justB, both := diffs.Diff(l, k)
		for _, row := range [][]diffs.Entry{l, k, justA, justB, both} {
			if !diffs.Sorted(row) {
				t.Fatal("it isn't sorted:", row)
			}
		}
		for _, e := range slices.Concat(l, k) {
			inA, inB := slices.Contains(l, e), slices.Contains(k, e)
			if slices.Contains(justA, e) != (inA && !inB) || slices.Contains(justB, e) != (inB && !inA) || slices.Contains(both, e) != (inA && inB) {
				t.Fatalf("Diff of %v and %v: %v; %v; %v", l, k, justA, justB, both)
			}
		}
		if len(justA)+len(justB)+2*len(both) != len(l)+len(k) {
			t.Fatalf("Diff of %v and %v: %v; %v; %v", l, k, justA, justB, both)
		}
	}
}

// P36.3: with what Sync tells, two contents are the same, if no two mutations have one key and one stamp.
func TestTheSame(t *testing.T) {
	random := rand.New(rand.NewSource(6))
	for range 5000 {
		var a, b state.Content
		used := map[diffs.Entry]bool{}
		for range random.Intn(14) {
			m := some(random)
			e := diffs.Entry{Key: m.Key, At: m.At}
			if used[e] {
				continue
			}
			used[e] = true
			if n := random.Intn(3); n > 0 {
				a = a.Add(m)
			} else {
				b = b.Add(m)
			}
			if random.Intn(2) == 0 {
				b = b.Add(m)
			}
		}
		toA, toB := diffs.Sync(a, b)
		if !state.Same(state.Join(a, state.Of(toA...)), state.Join(b, state.Of(toB...))) {
			t.Fatalf("%v with %v isn't %v with %v", a, toA, b, toB)
		}
	}
}

// Rule 5: what is handed in stays as it is, and what is told is new memory.
func TestAnswersAreNew(t *testing.T) {
	over := at(1, 0, 0)
	fresh := func() state.Content {
		return state.Of(sib("a", "v", 2, over), sib("b", "v", 2, over), put("c", "v", 2))
	}
	c := fresh()
	l := diffs.Pick(c, diffs.Manifest(c))
	l[1].Over[0], l[0] = at(7, 7, 7), api.Mut{}
	diffs.Manifest(c)[0] = diffs.Entry{}
	toA, _ := diffs.Sync(state.Content{}, c)
	toA[1].Over[0], toA[2].Over[0] = at(7, 7, 7), at(7, 7, 7)
	_, toB := diffs.Sync(c, state.Content{})
	toB[2].Over[0] = at(7, 7, 7)
	if !state.Same(c, fresh()) {
		t.Error("the content became", c)
	}
	room := []diffs.Entry{entry("a", 1), entry("b", 1), entry("c", 1), entry("d", 1)}
	want := slices.Clone(room)
	a, b, both := diffs.Diff(room[:3], room[2:3])
	a, b, both = append(a, entry("x", 1)), append(b, entry("y", 1)), append(both, entry("z", 1))
	a[0], both[0] = diffs.Entry{}, diffs.Entry{}
	if !slices.Equal(room, want) || !slices.Equal(b, []diffs.Entry{entry("y", 1)}) || a[1] != entry("b", 1) {
		t.Error("the rows became", room, a, b, both)
	}
	a, _, _ = diffs.Diff(room[:2], nil)
	_, b, _ = diffs.Diff(nil, room[1:3])
	a[0], b[0] = diffs.Entry{}, diffs.Entry{}
	a, b = append(a, diffs.Entry{}), append(b, diffs.Entry{})
	if !slices.Equal(room, want) || len(a) != 3 || len(b) != 3 {
		t.Error("the rows became", room)
	}
}

// P1: rows that don't rise, and contents that no function told, may be handed in, too; many of them end.
func TestAnyRows(t *testing.T) {
	odd := []diffs.Entry{entry("b", 1), {}, entry("b", 1), entry("\xff", -1), entry("a", math.MaxInt), entry("a", math.MinInt)}
	l := []api.Mut{{}, put("b", "\xff", 1), put("a", "v", -1), {Table: 9, Key: "\xff", At: at(-1, 0, 0)}}
	c := state.Content{Cells: l, Wipes: l, Sibs: l}
	diffs.Diff(odd, odd[1:])
	diffs.Diff(odd[2:], odd)
	diffs.Pick(c, odd)
	diffs.Sync(c, state.Of(put("a", "v", 1)))
	if m := diffs.Manifest(c); !diffs.Sorted(m) || len(m) != 4 {
		t.Error("it is", m)
	}
	var a, b []diffs.Entry
	for i := range 200000 {
		a, b = append(a, entry("k", 2*i)), append(b, entry("k", 3*i))
	}
	justA, justB, both := diffs.Diff(a, b)
	if len(both) != 66667 || len(justA) != 133333 || len(justB) != 133333 {
		t.Error(len(justA), len(justB), len(both))
	}
	var many state.Content
	for i := range 100000 {
		many.Sibs = append(many.Sibs, sib("k", "v", 3*i))
	}
	if n := len(diffs.Pick(many, b)); n != 100000 {
		t.Error("it picked", n)
	}
}
