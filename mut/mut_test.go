package mut_test

import (
	"cmp"
	"math"
	"slices"
	"strings"
	"testing"

	"cenotaph/api"
	"cenotaph/mut"
)

func at(phys, logic, who int) api.Stamp {
	return api.Stamp{Phys: phys, Logic: logic, Who: who}
}

// row: so many stamps that rise, the last one at the tick that tells how many.
func row(n int) []api.Stamp {
	var l []api.Stamp
	for i := range n {
		l = append(l, at(i+1, 0, 0))
	}
	return l
}

// put, del, wipe, sib: mutations that may be.
func put() api.Mut {
	return api.Mut{Table: api.Last, Kind: api.Put, Key: "k", Val: "v", Expiry: 9, At: at(5, 1, 2)}
}

func del() api.Mut {
	return api.Mut{Table: api.Last, Kind: api.Del, Key: "k", At: at(5, 1, 2)}
}

func wipe() api.Mut {
	return api.Mut{Table: api.Last, Kind: api.Wipe, Key: "k", End: "m", At: at(5, 1, 2)}
}

func sib() api.Mut {
	return api.Mut{Table: api.Causal, Kind: api.Put, Key: "k", Val: "v", At: at(5, 1, 2), Over: []api.Stamp{at(1, 0, 3), at(4, 2, 0)}}
}

func gone() api.Mut {
	m := sib()
	m.Kind, m.Val = api.Del, ""
	return m
}

// P7.1: what may be, and with one field otherwise may, or may not.
func TestRight(t *testing.T) {
	long := strings.Repeat("a", api.MaxKey)
	full := strings.Repeat("\u00e9", api.MaxVal/2)
	for name, c := range map[string]struct {
		of     func() api.Mut
		change func(m *api.Mut)
		want   bool
	}{
		"a put":  {put, func(m *api.Mut) {}, true},
		"a del":  {del, func(m *api.Mut) {}, true},
		"a wipe": {wipe, func(m *api.Mut) {}, true},
		"a sib":  {sib, func(m *api.Mut) {}, true},
		"a gone": {gone, func(m *api.Mut) {}, true},

		"no table":           {put, func(m *api.Mut) { m.Table = 0 }, false},
		"table 3":            {del, func(m *api.Mut) { m.Table = 3 }, false},
		"table -1":           {del, func(m *api.Mut) { m.Table = -1 }, false},
		"no kind":            {del, func(m *api.Mut) { m.Kind = 0 }, false},
		"kind 4":             {del, func(m *api.Mut) { m.Kind = 4 }, false},
		"kind -1":            {del, func(m *api.Mut) { m.Kind = -1 }, false},
		"kind 0 of causal":   {gone, func(m *api.Mut) { m.Kind = 0 }, false},
		"kind 4 of causal":   {gone, func(m *api.Mut) { m.Kind = 4 }, false},
		"del of causal":      {del, func(m *api.Mut) { m.Table = api.Causal }, true},
		"wipe of causal":     {wipe, func(m *api.Mut) { m.Table = api.Causal }, false},
		"wipe of causal two": {gone, func(m *api.Mut) { m.Kind, m.End = api.Wipe, "m" }, false},

		"no stamp":         {put, func(m *api.Mut) { m.At = api.Stamp{} }, false},
		"the first stamp":  {put, func(m *api.Mut) { m.At = at(0, 0, 1) }, true},
		"the last stamp":   {put, func(m *api.Mut) { m.At = at(api.MaxPhys, api.MaxPhys, api.MaxPhys) }, true},
		"a stamp below":    {put, func(m *api.Mut) { m.At = at(5, -1, 2) }, false},
		"a stamp beyond":   {put, func(m *api.Mut) { m.At = at(api.MaxPhys+1, 0, 0) }, false},
		"a writer beyond":  {put, func(m *api.Mut) { m.At = at(5, 0, api.MaxPhys+1) }, false},
		"a stamp far away": {put, func(m *api.Mut) { m.At = at(math.MaxInt, 0, 0) }, false},

		"over of a put":         {put, func(m *api.Mut) { m.Over = row(1) }, false},
		"over of a del":         {del, func(m *api.Mut) { m.Over = row(1) }, false},
		"over of a wipe":        {wipe, func(m *api.Mut) { m.Over = row(1) }, false},
		"an empty over":         {put, func(m *api.Mut) { m.Over = []api.Stamp{} }, true},
		"an empty over of sib":  {sib, func(m *api.Mut) { m.Over = []api.Stamp{} }, true},
		"no over of sib":        {sib, func(m *api.Mut) { m.Over = nil }, true},
		"over as it is":         {sib, func(m *api.Mut) { m.Over = []api.Stamp{m.At} }, false},
		"over just ahead":       {sib, func(m *api.Mut) { m.Over = []api.Stamp{at(5, 1, 1)} }, true},
		"over just behind":      {sib, func(m *api.Mut) { m.Over = []api.Stamp{at(5, 1, 3)} }, false},
		"over behind, last":     {sib, func(m *api.Mut) { m.Over = []api.Stamp{at(1, 0, 0), at(6, 0, 0)} }, false},
		"over behind, first":    {sib, func(m *api.Mut) { m.Over = []api.Stamp{at(6, 0, 0), at(1, 0, 0)} }, false},
		"over twice":            {sib, func(m *api.Mut) { m.Over = []api.Stamp{at(1, 0, 0), at(1, 0, 0)} }, false},
		"over that falls":       {sib, func(m *api.Mut) { m.Over = []api.Stamp{at(2, 0, 0), at(1, 9, 9)} }, false},
		"over that falls last":  {gone, func(m *api.Mut) { m.Over = []api.Stamp{at(1, 0, 0), at(3, 0, 0), at(2, 0, 0)} }, false},
		"over of nothing":       {sib, func(m *api.Mut) { m.Over = []api.Stamp{{}} }, false},
		"over below":            {sib, func(m *api.Mut) { m.Over = []api.Stamp{at(-1, 0, 0)} }, false},
		"over beyond":           {sib, func(m *api.Mut) { m.Over = []api.Stamp{at(1, 0, api.MaxPhys+1)} }, false},
		"over beyond, behind":   {sib, func(m *api.Mut) { m.Over = []api.Stamp{at(1, 0, 0), at(2, api.MaxPhys+1, 0)} }, false},
		"as many over as may":   {sib, func(m *api.Mut) { m.At, m.Over = at(99, 0, 0), row(api.MaxOver) }, true},
		"one over too many":     {sib, func(m *api.Mut) { m.At, m.Over = at(99, 0, 0), row(api.MaxOver+1) }, false},
		"many over":             {gone, func(m *api.Mut) { m.At, m.Over = at(api.MaxPhys, 0, 0), row(100000) }, false},
		"over of another table": {gone, func(m *api.Mut) { m.Table = 0 }, false},

		"no key":          {put, func(m *api.Mut) { m.Key = "" }, false},
		"not a key":       {put, func(m *api.Mut) { m.Key = "1" }, false},
		"not a key, del":  {gone, func(m *api.Mut) { m.Key = "a b" }, false},
		"not a key, wipe": {wipe, func(m *api.Mut) { m.Key = "-" }, false},
		"a broken key":    {put, func(m *api.Mut) { m.Key = "a\xff" }, false},
		"a long key":      {put, func(m *api.Mut) { m.Key = long }, true},
		"too long a key":  {put, func(m *api.Mut) { m.Key = long + "a" }, false},

		"no expiry":         {put, func(m *api.Mut) { m.Expiry = 0 }, true},
		"the first expiry":  {put, func(m *api.Mut) { m.Expiry = 1 }, true},
		"the last expiry":   {put, func(m *api.Mut) { m.Expiry = api.MaxPhys }, true},
		"an expiry beyond":  {put, func(m *api.Mut) { m.Expiry = api.MaxPhys + 1 }, false},
		"an expiry below":   {put, func(m *api.Mut) { m.Expiry = -1 }, false},
		"the least expiry":  {put, func(m *api.Mut) { m.Expiry = math.MinInt }, false},
		"an expiry of del":  {del, func(m *api.Mut) { m.Expiry = 1 }, false},
		"an expiry of wipe": {wipe, func(m *api.Mut) { m.Expiry = 1 }, false},
		"an expiry of sib":  {sib, func(m *api.Mut) { m.Expiry = 1 }, false},
		"an expiry of gone": {gone, func(m *api.Mut) { m.Expiry = 1 }, false},

		"no value":          {put, func(m *api.Mut) { m.Val = "" }, true},
		"no value of sib":   {sib, func(m *api.Mut) { m.Val = "" }, true},
		"any runes":         {put, func(m *api.Mut) { m.Val = " \x00\n\U0010ffff" }, true},
		"a full value":      {put, func(m *api.Mut) { m.Val = full }, true},
		"too full a value":  {put, func(m *api.Mut) { m.Val = full + "a" }, false},
		"a full one of sib": {sib, func(m *api.Mut) { m.Val = full + "a" }, false},
		"a broken value":    {put, func(m *api.Mut) { m.Val = "a\xff" }, false},
		"a value of del":    {del, func(m *api.Mut) { m.Val = "v" }, false},
		"a value of wipe":   {wipe, func(m *api.Mut) { m.Val = "v" }, false},
		"a value of gone":   {gone, func(m *api.Mut) { m.Val = "v" }, false},

		"an end of put":      {put, func(m *api.Mut) { m.End = "m" }, false},
		"an end of del":      {del, func(m *api.Mut) { m.End = "m" }, false},
		"an end of sib":      {sib, func(m *api.Mut) { m.End = "m" }, false},
		"an end of gone":     {gone, func(m *api.Mut) { m.End = "m" }, false},
		"no end":             {wipe, func(m *api.Mut) { m.End = "" }, false},
		"an end at the key":  {wipe, func(m *api.Mut) { m.End = "k" }, false},
		"an end behind it":   {wipe, func(m *api.Mut) { m.End = "k-" }, true},
		"an end ahead of it": {wipe, func(m *api.Mut) { m.End = "a" }, false},
		"an end that is no":  {wipe, func(m *api.Mut) { m.End = "k~" }, false},
		"a broken end":       {wipe, func(m *api.Mut) { m.End = "m\xff" }, false},
		"a long end":         {wipe, func(m *api.Mut) { m.End = "k" + long[1:] }, true},
		"too long an end":    {wipe, func(m *api.Mut) { m.End = "k" + long }, false},
	} {
		m := c.of()
		c.change(&m)
		if mut.Right(m) != c.want {
			t.Errorf("%s: Right is %v", name, !c.want)
		}
	}
	if mut.Right(api.Mut{}) {
		t.Error("the zero mutation may be")
	}
}

// ordered: mutations that rise, of which each differs from the one ahead by the field that decides, while those that count less fall.
func ordered() []api.Mut {
	low, high := put(), put()
	high.Table, high.Kind, high.Key, high.End, high.Val, high.Expiry, high.Over = 9, 9, "z", "z", "z", 99, row(3)
	stamps := []api.Stamp{at(-1, 9, 9), {}, at(0, 0, 1), at(0, 1, 0), at(1, 0, 0), at(1, 0, 2), at(1, 2, 0), at(1, 2, 1), at(math.MaxInt, 0, 0)}
	var l []api.Mut
	for _, s := range stamps {
		m := high // as great as can be but for the stamp
		m.At = s
		l = append(l, m)
	}
	m := low
	m.At = at(math.MaxInt, math.MaxInt, math.MaxInt)
	for _, more := range []func(){
		func() { m.Table = math.MinInt }, func() { m.Table = 1 }, func() { m.Table = 2 },
		func() { m.Kind = 2 }, func() { m.Kind = 3 },
		func() { m.Key = "k\x00" }, func() { m.Key = "kk" }, func() { m.Key = "l" }, func() { m.Key = "\u00e9" }, func() { m.Key = "\xff" },
		func() { m.End = "a" }, func() { m.End = "b" },
		func() { m.Val = "v0" }, func() { m.Val = "w" },
		func() { m.Expiry = 10 }, func() { m.Expiry = 11 },
		func() { m.Over = row(1) }, func() { m.Over = row(2) }, func() { m.Over = row(3) },
		func() { m.Over = []api.Stamp{at(1, 0, 0), at(2, 0, 1)} },
		func() { m.Over = []api.Stamp{at(1, 0, 0), at(3, 0, 0)} },
		func() { m.Over = []api.Stamp{at(1, 0, 1)} },
		func() { m.Over = []api.Stamp{at(2, 0, 0)} },
	} {
		more()
		l = append(l, m)
	}
	return l
}

// P7.2: the order, field by field, and what is the same.
func TestCompare(t *testing.T) {
	l := ordered()
	for i, a := range l {
		for j, b := range l {
			if c := mut.Compare(a, b); c != cmp.Compare(i, j) {
				t.Errorf("Compare of %d and %d is %d", i, j, c)
			}
			if mut.Same(a, b) != (i == j) {
				t.Errorf("Same of %d and %d is %v", i, j, i != j)
			}
		}
	}
}

// P7.2: each field decides, whatever those behind it say.
func TestCompareByFirstFields(t *testing.T) {
	fields := []func(m *api.Mut, n int){
		func(m *api.Mut, n int) { m.At.Phys = n }, func(m *api.Mut, n int) { m.At.Logic = n }, func(m *api.Mut, n int) { m.At.Who = n },
		func(m *api.Mut, n int) { m.Table = api.Table(n) }, func(m *api.Mut, n int) { m.Kind = api.Kind(n) },
		func(m *api.Mut, n int) { m.Key = strings.Repeat("k", n) }, func(m *api.Mut, n int) { m.End = strings.Repeat("k", n) }, func(m *api.Mut, n int) { m.Val = strings.Repeat("k", n) },
		func(m *api.Mut, n int) { m.Expiry = n }, func(m *api.Mut, n int) { m.Over = row(n) },
	}
	for i, field := range fields {
		var a, b api.Mut
		for _, ahead := range fields[:i] {
			ahead(&a, 7)
			ahead(&b, 7)
		}
		field(&a, 1)
		field(&b, 2)
		for _, behind := range fields[i+1:] {
			behind(&a, 2)
			behind(&b, 1)
		}
		if mut.Compare(a, b) != -1 || mut.Compare(b, a) != 1 || mut.Same(a, b) {
			t.Errorf("the field %d doesn't decide", i)
		}
	}
}

// P7.2: a nil list is an empty one.
func TestSameWithoutOver(t *testing.T) {
	a, b := sib(), sib()
	a.Over, b.Over = nil, []api.Stamp{}
	if !mut.Same(a, b) || !mut.Same(api.Mut{}, api.Mut{}) {
		t.Error("what has nothing isn't the same")
	}
}

// P7.2, rule 5: copies are the same, and have memory of their own.
func TestCopies(t *testing.T) {
	room := row(5)
	m := sib()
	m.Over = room[:3]
	c := mut.Copy(m)
	if !mut.Same(c, m) {
		t.Fatal("a copy isn't the same")
	}
	c.Over[0] = at(9, 9, 9)
	c.Over = append(c.Over, at(8, 8, 8))
	if !slices.Equal(room, row(5)) {
		t.Error("a copy shares memory:", room)
	}
	l := []api.Mut{put(), m, wipe(), m, gone()}
	all := mut.Copies(l)
	if !slices.EqualFunc(all, l, mut.Same) {
		t.Fatal("copies aren't the same")
	}
	all[1].Over[1] = at(7, 7, 7)
	all[0] = api.Mut{}
	if !mut.Same(all[3], m) || !mut.Same(l[0], put()) || !slices.Equal(room, row(5)) {
		t.Error("copies share memory")
	}
	if len(mut.Copies(nil)) != 0 || len(mut.Copies([]api.Mut{})) != 0 || !mut.Same(mut.Copy(api.Mut{}), api.Mut{}) {
		t.Error("copies of nothing")
	}
	if got := mut.Copies(l[:2]); len(got) != 2 {
		t.Error("what lies behind the length is copied")
	}
}

// P7.2: what a wipe covers.
func TestCovers(t *testing.T) {
	w := wipe() // from k up to ahead of m
	for key, want := range map[string]bool{"": false, "a": false, "j\xff": false, "k": true, "k\x00": true, "kz": true, "l": true, "l\xff\xff": true, "m": false, "m\x00": false, "z": false, "K": false, "\xff": false} {
		if mut.Covers(w, key) != want {
			t.Errorf("Covers(%q) is %v", key, !want)
		}
		for _, kind := range []api.Kind{0, api.Put, api.Del, 4, -1} {
			m := w
			m.Kind = kind
			if mut.Covers(m, key) {
				t.Errorf("the kind %d covers %q", kind, key)
			}
		}
	}
	w.End = "k"
	if mut.Covers(w, "k") {
		t.Error("what ends where it begins covers that")
	}
	if mut.Covers(api.Mut{}, "") {
		t.Error("the zero mutation covers")
	}
}
