package verse_test

import (
	"bytes"
	"math"
	"math/rand"
	"slices"
	"testing"

	"cenotaph/api"
	"cenotaph/verse"
	"cenotaph/wire"
)

func at(phys, logic, who int) api.Stamp { return api.Stamp{Phys: phys, Logic: logic, Who: who} }

// tabs: so many tables, numbered from 1 on, each third one a repaired one.
func tabs(n int) []verse.Tab {
	var l []verse.Tab
	for i := range n {
		l = append(l, verse.Tab{ID: 1 + i, Repaired: i%3 == 0})
	}
	return l
}

// whole: a version all of whose fields say something.
func whole() verse.Version {
	return verse.Version{Log: 4, Next: 300, Tabs: []verse.Tab{{ID: 300, Repaired: true}, {ID: 1}, {ID: 7, Repaired: true}}, Floor: at(1, 2, 3), Fence: at(4, 0, 130), Seal: at(5, 6, 0), Quar: true}
}

// same holds two versions against one another, not by the program's Same.
func same(a, b verse.Version) bool {
	return bytes.Equal(model(a), model(b)) && a.Log == b.Log && a.Floor == b.Floor && a.Fence == b.Fence && a.Seal == b.Seal
}

// model: a version's numbers in their order, as the document words it.
func model(v verse.Version) []byte {
	l := []int{v.Log, v.Next, len(v.Tabs)}
	one := map[bool]int{true: 1}
	for _, t := range v.Tabs {
		l = append(l, t.ID, one[t.Repaired])
	}
	l = append(l, v.Floor.Phys, v.Floor.Logic, v.Floor.Who, v.Fence.Phys, v.Fence.Logic, v.Fence.Who, v.Seal.Phys, v.Seal.Logic, v.Seal.Who, one[v.Quar])
	return row(l...)
}

func row(l ...int) []byte {
	var b []byte
	for _, n := range l {
		b = wire.Put(b, n)
	}
	return b
}

// P17.1: which versions may be.
func TestRight(t *testing.T) {
	for name, x := range map[string]struct {
		change func(v *verse.Version)
		want   bool
	}{
		"as it is":             {func(v *verse.Version) {}, true},
		"nothing":              {func(v *verse.Version) { *v = verse.Version{} }, true},
		"an empty row":         {func(v *verse.Version) { v.Tabs = []verse.Tab{} }, true},
		"no log":               {func(v *verse.Version) { v.Log = 0 }, true},
		"a log below 0":        {func(v *verse.Version) { v.Log = -1 }, false},
		"a log far below":      {func(v *verse.Version) { v.Log = math.MinInt }, false},
		"the last log":         {func(v *verse.Version) { v.Log, v.Next = 301, 301 }, true},
		"a log beyond":         {func(v *verse.Version) { v.Log = 301 }, false},
		"a log far beyond":     {func(v *verse.Version) { v.Log = math.MaxInt }, false},
		"the greatest Next":    {func(v *verse.Version) { v.Next = api.MaxPhys }, true},
		"a greater Next":       {func(v *verse.Version) { v.Next = api.MaxPhys + 1 }, false},
		"the last Next":        {func(v *verse.Version) { v.Log, v.Next, v.Tabs = 0, math.MaxInt, nil }, false},
		"a Next below 0":       {func(v *verse.Version) { *v = verse.Version{Log: -1, Next: -1} }, false},
		"a Next ahead":         {func(v *verse.Version) { v.Next = 299 }, false},
		"a table 1":            {func(v *verse.Version) { *v = verse.Version{Next: 1, Tabs: tabs(1)} }, true},
		"a table 0":            {func(v *verse.Version) { v.Tabs[1].ID = 0 }, false},
		"a table below 0":      {func(v *verse.Version) { v.Tabs[1].ID = math.MinInt }, false},
		"a table beyond":       {func(v *verse.Version) { v.Tabs[2].ID = 301 }, false},
		"the log's":            {func(v *verse.Version) { v.Tabs[1].ID = 4 }, false},
		"beside the log's":     {func(v *verse.Version) { v.Tabs[1].ID, v.Tabs[2].ID = 3, 5 }, true},
		"one twice":            {func(v *verse.Version) { v.Tabs[2].ID = 300 }, false},
		"one twice, otherwise": {func(v *verse.Version) { v.Tabs[2] = verse.Tab{ID: 1, Repaired: true} }, false},
		"64 tables":            {func(v *verse.Version) { v.Tabs, v.Log = tabs(64), 65 }, true},
		"65 tables":            {func(v *verse.Version) { v.Tabs, v.Log = tabs(65), 66 }, false},
		"the last one wrong":   {func(v *verse.Version) { v.Tabs, v.Log = tabs(64), 64 }, false},
		"no stamps":            {func(v *verse.Version) { v.Floor, v.Fence, v.Seal = api.Stamp{}, api.Stamp{}, api.Stamp{} }, true},
		"stamps that fall":     {func(v *verse.Version) { v.Floor, v.Fence, v.Seal = at(9, 0, 0), at(5, 0, 0), at(1, 0, 0) }, true},
	} {
		v := whole()
		x.change(&v)
		if verse.Right(v) != x.want {
			t.Errorf("%s: Right is %v", name, !x.want)
		}
	}
	for s, want := range map[api.Stamp]bool{{}: true, at(0, 0, 1): true, at(0, 1, 0): true, at(api.MaxPhys, api.MaxPhys, api.MaxPhys): true, at(api.MaxPhys+1, 0, 0): false, at(1, api.MaxPhys+1, 0): false, at(1, 0, api.MaxPhys+1): false, at(-1, 0, 0): false, at(1, -1, 0): false, at(1, 0, -1): false, at(math.MinInt, math.MaxInt, 0): false} {
		a, b, c := whole(), whole(), whole()
		a.Floor, b.Fence, c.Seal = s, s, s
		if verse.Right(a) != want || verse.Right(b) != want || verse.Right(c) != want {
			t.Errorf("with the stamp %v: %v, %v, %v", s, verse.Right(a), verse.Right(b), verse.Right(c))
		}
	}
}

// P17.1: a version's bytes.
func TestPut(t *testing.T) {
	if b := verse.Put(verse.Version{}); !bytes.Equal(b, make([]byte, 13)) {
		t.Error("of nothing:", b)
	}
	if b := verse.Put(whole()); !bytes.Equal(b, []byte{4, 130, 44, 3, 130, 44, 1, 1, 0, 7, 1, 1, 2, 3, 4, 0, 129, 2, 5, 6, 0, 1}) {
		t.Error("the bytes are", b)
	}
}

// right: a version that may be.
func right(random *rand.Rand) verse.Version {
	one := func() api.Stamp {
		if random.Intn(3) == 0 {
			return api.Stamp{}
		}
		return at(1+random.Intn(300), random.Intn(3), random.Intn(api.MaxPhys))
	}
	v := verse.Version{Next: random.Intn(200), Floor: one(), Fence: one(), Seal: one(), Quar: random.Intn(2) == 0}
	v.Log = random.Intn(v.Next + 1)
	for _, id := range random.Perm(v.Next + 1) {
		if id != 0 && id != v.Log && len(v.Tabs) < verse.Most && random.Intn(3) == 0 {
			v.Tabs = append(v.Tabs, verse.Tab{ID: id, Repaired: random.Intn(2) == 0})
		}
	}
	return v
}

// P17.1: what was put is read as it was; cut off, or with more behind it, it tells nothing.
func TestWhatWasPutIsRead(t *testing.T) {
	random := rand.New(rand.NewSource(17))
	for range 3000 {
		v := right(random)
		b := verse.Put(v)
		if !verse.Right(v) || !bytes.Equal(b, model(v)) {
			t.Fatalf("the bytes of %v are %v", v, b)
		}
		got, why := verse.Get(b)
		if why != api.OK || !same(got, v) || !verse.Same(got, v) {
			t.Fatalf("%v is read as %v, %v", v, got, why)
		}
		none, why := verse.Get(b[:random.Intn(len(b))])
		if why != api.ErrShort || !same(none, verse.Version{}) || none.Tabs != nil {
			t.Fatalf("%v, cut, is %v, %v", v, none, why)
		}
		none, why = verse.Get(append(b, byte(random.Intn(256))))
		if why != api.ErrForm || !same(none, verse.Version{}) || none.Tabs != nil {
			t.Fatalf("%v, with a byte more, is %v, %v", v, none, why)
		}
	}
}

// P17.1: bytes that are no version's.
func TestGetFaults(t *testing.T) {
	none := []int{0, 0, 0, 0, 0, 0, 0, 0, 0}
	with := func(l []int, more ...int) []byte { return row(slices.Concat(l, more)...) }
	full := func(n int) []byte {
		v := whole()
		v.Tabs, v.Log = tabs(n), n+1
		return model(v)
	}
	for name, x := range map[string]struct {
		b   []byte
		why api.Errno
	}{
		"none":                           {nil, api.ErrShort},
		"of nothing":                     {make([]byte, 13), api.OK},
		"a byte too few":                 {make([]byte, 12), api.ErrShort},
		"a byte too many":                {make([]byte, 14), api.ErrForm},
		"a needless byte":                {append([]byte{128}, make([]byte, 13)...), api.ErrForm},
		"a needless byte, cut":           {[]byte{128, 0}, api.ErrForm},
		"a needless byte at the end":     {append(make([]byte, 12), 128, 0), api.ErrForm},
		"a log beyond":                   {with([]int{1, 0, 0}, append(none, 0)...), api.ErrForm},
		"a log beyond, cut":              {with([]int{1, 0, 0}, none...), api.ErrShort},
		"a greater Next":                 {with([]int{0, api.MaxPhys + 1, 0}, append(none, 0)...), api.ErrForm},
		"a table that is 2 repaired":     {with([]int{0, 1, 1, 1, 2}, append(none, 0)...), api.ErrForm},
		"a table that is repaired":       {with([]int{0, 1, 1, 1, 1}, append(none, 0)...), api.OK},
		"a table 0":                      {with([]int{0, 1, 1, 0, 1}, append(none, 0)...), api.ErrForm},
		"in quarantine":                  {with([]int{0, 0, 0}, append(none, 1)...), api.OK},
		"2 in quarantine":                {with([]int{0, 0, 0}, append(none, 2)...), api.ErrForm},
		"more tables than there are":     {with([]int{0, 1, 2, 1, 1}, append(none, 0)...), api.ErrShort},
		"more stamps than there are":     {with([]int{0, 0, 0}, append(none, 0, 0, 0, 0)...), api.ErrForm},
		"a stamp that may not be":        {with([]int{0, 0, 0, 0, 0, 0, 0, api.MaxPhys + 1, 0, 0, 0, 0}, 0), api.ErrForm},
		"64 tables":                      {full(64), api.OK},
		"65 tables":                      {full(65), api.ErrForm},
		"65 tables, cut":                 {full(65)[:99], api.ErrShort},
		"2^61 tables":                    {[]byte{0, 0, 160, 128, 128, 128, 128, 128, 128, 128, 0}, api.ErrShort},
		"2^62 tables":                    {[]byte{0, 0, 192, 128, 128, 128, 128, 128, 128, 128, 0}, api.ErrForm},
		"a number too great, and cut":    {[]byte{0, 255, 255, 255, 255, 255, 255, 255, 255, 255, 0}, api.ErrForm},
		"a version, and then once more":  {make([]byte, 26), api.ErrForm},
		"the last tables, and then none": {full(64)[:130], api.ErrShort},
	} {
		v, why := verse.Get(x.b)
		if why != x.why || why != api.OK && (!same(v, verse.Version{}) || v.Tabs != nil) {
			t.Errorf("%s: %v, %v", name, v, why)
		}
	}
}

// P17.1, P1: of any bytes what is read is a version that may be, with these bytes.
func TestAnyBytes(t *testing.T) {
	random := rand.New(rand.NewSource(18))
	read := 0
	for range 20000 {
		b := verse.Put(right(random))
		for range random.Intn(3) {
			b[random.Intn(len(b))] = byte(random.Intn(256) >> random.Intn(8))
		}
		v, why := verse.Get(b)
		switch {
		case why != api.OK && !same(v, verse.Version{}):
			t.Fatalf("beside %v there is %v", why, v)
		case why == api.OK && (!verse.Right(v) || !bytes.Equal(model(v), b)):
			t.Fatalf("%v is read as %v", b, v)
		case why == api.OK:
			read++
		}
	}
	if read < 1000 {
		t.Error("few were read:", read)
	}
}

// P17.1: the same in all that they say.
func TestSame(t *testing.T) {
	for name, change := range map[string]func(v *verse.Version){
		"the log": func(v *verse.Version) { v.Log = 5 }, "Next": func(v *verse.Version) { v.Next++ }, "the quarantine": func(v *verse.Version) { v.Quar = false },
		"the floor": func(v *verse.Version) { v.Floor.Who++ }, "the fence": func(v *verse.Version) { v.Fence.Logic++ }, "the seal": func(v *verse.Version) { v.Seal.Phys++ }, "no floor": func(v *verse.Version) { v.Floor = api.Stamp{} },
		"a number": func(v *verse.Version) { v.Tabs[1].ID = 2 }, "a repaired one": func(v *verse.Version) { v.Tabs[1].Repaired = true }, "one less": func(v *verse.Version) { v.Tabs = v.Tabs[:2] }, "one more": func(v *verse.Version) { v.Tabs = append(v.Tabs, verse.Tab{ID: 9}) }, "none": func(v *verse.Version) { v.Tabs = nil },
		"their order": func(v *verse.Version) { slices.Reverse(v.Tabs) }, "all": func(v *verse.Version) { *v = verse.Version{} },
	} {
		a, b := whole(), whole()
		if !verse.Same(a, b) {
			t.Fatal("it isn't the same as it")
		}
		change(&b)
		if verse.Same(a, b) || verse.Same(b, a) || !verse.Same(b, b) {
			t.Errorf("%s: they are the same", name)
		}
	}
	if !verse.Same(verse.Version{}, verse.Version{Tabs: []verse.Tab{}}) {
		t.Error("nothing isn't nothing")
	}
}

// P17.2: the names of files.
func TestNames(t *testing.T) {
	for n, want := range map[int]string{0: "0", 1: "1", 12: "12", -1: "0", math.MinInt: "0", api.MaxPhys: "1099511627776", math.MaxInt: "9223372036854775807"} {
		if verse.Log("r0", n) != "r0-log-"+want || verse.Table("r0", n) != "r0-tab-"+want || verse.Log("", n) != "-log-"+want {
			t.Errorf("of %d the names are %q, %q", n, verse.Log("r0", n), verse.Table("r0", n))
		}
	}
	if verse.Base("r0") != "r0-base" || verse.Fresh("r0") != "r0-fresh" || verse.Base("") != "-base" || verse.Fresh("\xff") != "\xff-fresh" {
		t.Error("the names are", verse.Base("r0"), verse.Fresh("r0"))
	}
	for _, x := range []struct {
		v    verse.Version
		want []string
	}{
		{verse.Version{}, []string{"a-log-0"}}, {whole(), []string{"a-log-4", "a-tab-300", "a-tab-1", "a-tab-7"}}, {verse.Version{Log: -3, Tabs: []verse.Tab{{ID: -1}, {ID: 2}, {ID: 2}}}, []string{"a-log-0", "a-tab-0", "a-tab-2", "a-tab-2"}},
	} {
		if l := x.v.Files("a"); !slices.Equal(l, x.want) {
			t.Errorf("the files of %v are %q", x.v, l)
		}
	}
}

// Rule 5: what is handed in stays as it is, and isn't kept.
func TestAnswersAreNew(t *testing.T) {
	v := whole()
	v.Tabs = append(v.Tabs, verse.Tab{ID: 9})[:3]
	verse.Right(v)
	verse.Put(v)[0] = 99
	v.Files("a")[0] = "spoilt"
	if !same(v, whole()) || v.Tabs[:4][3] != (verse.Tab{ID: 9}) || v.Files("a")[0] != "a-log-4" {
		t.Error("what was handed in became", v)
	}
	b := verse.Put(v)
	got, _ := verse.Get(b)
	if !bytes.Equal(b, model(whole())) {
		t.Error("what was handed in became", b)
	}
	clear(b)
	got.Tabs[0].ID++
	again, _ := verse.Get(model(whole()))
	if got.Tabs[0].ID = 300; !same(got, whole()) || !same(again, whole()) {
		t.Error("what was read shares memory:", got, again)
	}
}

// P1: versions that may not be, and great ones.
func TestOddVersions(t *testing.T) {
	odd := verse.Version{Log: math.MinInt, Next: math.MaxInt, Tabs: []verse.Tab{{ID: math.MinInt}, {ID: math.MaxInt}}, Floor: at(math.MinInt, -1, math.MaxInt), Fence: at(-1, 0, 0)}
	great := verse.Version{Next: 99999, Tabs: tabs(99999)}
	for _, v := range []verse.Version{odd, great} {
		if _, why := verse.Get(verse.Put(v)); verse.Right(v) || why != api.ErrForm || !verse.Same(v, v) || len(v.Files("a")) != 1+len(v.Tabs) {
			t.Error("it is taken:", why)
		}
	}
}
