package table_test

import (
	"bytes"
	"math/rand"
	"slices"
	"strconv"
	"strings"
	"testing"

	"cenotaph/api"
	"cenotaph/mem"
	"cenotaph/mut"
	"cenotaph/page"
	"cenotaph/sieve"
	"cenotaph/state"
	"cenotaph/table"
	"cenotaph/wire"
)

func at(phys, logic, who int) api.Stamp { return api.Stamp{Phys: phys, Logic: logic, Who: who} }

func put(key, val string, phys int) api.Mut {
	return api.Mut{Table: api.Last, Kind: api.Put, Key: key, Val: val, At: at(phys, 0, 0)}
}

func del(key string, phys int) api.Mut {
	return api.Mut{Table: api.Last, Kind: api.Del, Key: key, At: at(phys, 0, 0)}
}

func wipe(key, end string, phys int) api.Mut {
	return api.Mut{Table: api.Last, Kind: api.Wipe, Key: key, End: end, At: at(phys, 0, 0)}
}

func sib(key, val string, phys int, over ...api.Stamp) api.Mut {
	return api.Mut{Table: api.Causal, Kind: api.Put, Key: key, Val: val, At: at(phys, 0, 0), Over: over}
}

func same(a, b []api.Mut) bool { return slices.EqualFunc(a, b, mut.Same) }

// cells: a cell of each of the first letters, so many.
func cells(n int) []api.Mut {
	var l []api.Mut
	for i := range n {
		l = append(l, put(string(rune('a'+i)), "v", 9-i%3))
	}
	return l
}

// sibs: so many of one key.
func sibs(key string, n int) []api.Mut {
	var l []api.Mut
	for i := range n {
		l = append(l, sib(key, "v", 1+i))
	}
	return l
}

// leaf is a page as it stands in a table's bytes.
type leaf struct {
	first string
	bytes []byte
}

// leaves: the pages of mutations, cut anew, not by the program's Cut.
func leaves(l []api.Mut) []leaf {
	l = slices.Clone(l)
	slices.SortFunc(l, mem.Compare)
	var pages []leaf
	for p := range slices.Chunk(l, 8) {
		pages = append(pages, leaf{p[0].Key, page.Put(nil, p)})
	}
	return pages
}

// parts is all that a table's bytes say.
type parts struct {
	count int
	pages []leaf
	keys  []string
	wipes []api.Mut
}

// take: what the bytes of a content's table must say.
func take(c state.Content) parts {
	l := slices.Concat(c.Sibs, c.Cells)
	var keys []string
	for _, m := range l {
		if !slices.Contains(keys, m.Key) {
			keys = append(keys, m.Key)
		}
	}
	pages := leaves(l)
	return parts{len(pages), pages, keys, c.Wipes}
}

func (p parts) bytes() []byte {
	b := wire.Put(nil, p.count)
	for _, l := range p.pages {
		b = wire.Text(wire.Text(b, l.first), string(l.bytes))
	}
	return mut.All(sieve.Put(b, sieve.Of(p.keys...)), p.wipes)
}

// open opens what a content's table is put as.
func open(t *testing.T, c state.Content) *table.Table {
	t.Helper()
	x, why := table.Open(table.Put(c))
	if x == nil || why != api.OK {
		t.Fatalf("the table of %v isn't opened: %v", c, why)
	}
	return x
}

// P16.1: a table's bytes, one by one.
func TestPut(t *testing.T) {
	one := "\x01\x00\x01k\x01\x01\x00\x01v\x00\x02\x00\x00\x00"
	two := "\x02\x00\x01j\x02\x02\x00\x00\x00\x01\x00\x00\x00\x00\x01k\x01\x01\x00\x01v\x00\x02\x00\x00\x00"
	gone := sib("j", "", 1)
	gone.Kind = api.Del
	for name, x := range map[string]struct {
		c    state.Content
		want string
	}{
		"nothing":    {state.Content{}, "\x00\x01\x00\x00"},
		"a cell":     {state.Of(put("k", "v", 2)), "\x01\x01k" + string(rune(len(one))) + one + string(sieve.Put(nil, sieve.Of("k"))) + "\x00"},
		"two keys":   {state.Of(put("k", "v", 2), gone), "\x01\x01j" + string(rune(len(two))) + two + string(sieve.Put(nil, sieve.Of("k", "j"))) + "\x00"},
		"wipes only": {state.Of(wipe("b", "c", 2), wipe("a", "b", 1)), "\x00\x01\x00\x02\x01a\x01\x03\x01b\x00\x00\x01\x00\x00\x00\x01b\x01\x03\x01c\x00\x00\x02\x00\x00\x00"},
	} {
		if b := table.Put(x.c); string(b) != x.want {
			t.Errorf("%s: the bytes are %q", name, b)
		}
	}
	c := state.Of(slices.Concat(cells(20), sibs("c", 20), sibs("zz", 1), []api.Mut{wipe("a", "z", 1)})...)
	if b := table.Put(c); !bytes.Equal(b, take(c).bytes()) {
		t.Errorf("the bytes are %q", b)
	}
	if b := table.Put(c); sieve.Of(take(c).keys...).Size() != 8*(1+10*21/8) || !bytes.Contains(b, sieve.Put(nil, sieve.Of(take(c).keys...))) {
		t.Error("the filter isn't that of each key once")
	}
}

// P16.1, P16.2: what was put is opened as it was, at pages' edges, too.
func TestWhatWasPutIsOpened(t *testing.T) {
	for _, n := range []int{0, 1, 7, 8, 9, 15, 16, 17, 24, 26} {
		c := state.Of(append(cells(n), wipe("b", "y", 1), wipe("a", "z", 2), wipe("y", "z", 3))...)
		x := open(t, c)
		if x.Pages() != (n+7)/8 || x.Reads() != 0 {
			t.Errorf("of %d there are %d pages, %d read", n, x.Pages(), x.Reads())
		}
		got, why := x.All()
		if why != api.OK || !state.Same(got, c) || x.Reads() != x.Pages() {
			t.Errorf("of %d there is %v, %v, with %d read", n, got, why, x.Reads())
		}
		if l := x.Wipes(); !same(l, c.Wipes) || x.Reads() != x.Pages() {
			t.Errorf("of %d the wipes are %v", n, l)
		}
		if got, _ := x.All(); !state.Same(got, c) || x.Reads() != 2*x.Pages() {
			t.Errorf("of %d there is, once more, %v, with %d read", n, got, x.Reads())
		}
	}
}

// P16.2: which pages are read of which key.
func TestReads(t *testing.T) {
	letters := state.Of(cells(20)...)                                        // pages from a, i and q on
	many := state.Of(slices.Concat(cells(9), sibs("d", 30))...)              // of d there are 31, from the first page's fourth place on
	edge := state.Of(slices.Concat(sibs("b", 8), sibs("c", 8))...)           // b fills the first page, c the second one
	full := state.Of(slices.Concat(cells(1), sibs("b", 7), cells(3)[2:])...) // b ends with the first page
	for name, x := range map[string]struct {
		c     state.Content
		key   string
		reads int
	}{
		"the first one": {letters, "a", 1}, "within the first page": {letters, "c", 1}, "the first page's last one": {letters, "h", 1}, "the second page's first one": {letters, "i", 2}, "within the second page": {letters, "j", 1}, "the third page's first one": {letters, "q", 2}, "the last one": {letters, "t", 1},
		"ahead of many": {many, "c", 1}, "many": {many, "d", 5}, "behind many": {many, "e", 1}, "the last one behind many": {many, "i", 1},
		"a whole first page": {edge, "b", 1}, "a whole second page": {edge, "c", 2}, "up to a page's end": {full, "b", 1}, "behind it": {full, "c", 2},
	} {
		got := open(t, x.c)
		l := got.Get(x.key)
		if len(l) == 0 || got.Reads() != x.reads {
			t.Errorf("%s: of %q there are %v, with %d read", name, x.key, l, got.Reads())
		}
		if again := got.Get(x.key); !same(again, l) || got.Reads() != 2*x.reads {
			t.Errorf("%s: of %q there are then %v, with %d read", name, x.key, again, got.Reads())
		}
	}
	if l := open(t, many).Get("d"); len(l) != 31 || !slices.IsSortedFunc(l, mem.Compare) {
		t.Error("of d there are", l)
	}
}

// P16.2: of a key that isn't there no page is read, if the filter says so, or if all begin behind it.
func TestKeysThatAreNotThere(t *testing.T) {
	c := state.Of(append(cells(20)[1:], wipe("A", "Z", 1), wipe("x", "z", 9))...)
	filter := sieve.Of(take(c).keys...)
	kinds := map[string]int{}
	for i := range 500 {
		for _, key := range []string{"x" + strconv.Itoa(i), "A" + strconv.Itoa(i), "ba" + strconv.Itoa(i)} {
			kind, want := "the filter says so", 0
			switch {
			case !filter.May(key):
			case key < "b":
				kind = "all begin behind it"
			default:
				kind, want = "one page is read", 1
			}
			kinds[kind]++
			x := open(t, c)
			if l := x.Get(key); len(l) != 0 || x.Reads() != want {
				t.Fatalf("of %q there is %v, with %d read", key, l, x.Reads())
			}
		}
	}
	if len(kinds) != 3 {
		t.Error("not all kinds of keys were asked for:", kinds)
	}
	x := open(t, state.Content{})
	if len(x.Get("a")) != 0 || len(x.Get("")) != 0 || len(x.Wipes()) != 0 || x.Reads() != 0 || x.Pages() != 0 {
		t.Error("there is something in a table of nothing")
	}
}

// some: a mutation of few keys and few stamps, so that many of them meet.
func some(random *rand.Rand) api.Mut {
	key := strings.Repeat("a", random.Intn(3)) + string(rune('a'+random.Intn(5)))
	m := put(key, string(rune('u'+random.Intn(3))), 1+random.Intn(9))
	m.At.Logic, m.At.Who = random.Intn(2), random.Intn(2)
	switch random.Intn(8) {
	case 0:
		m.Kind, m.Val, m.End = api.Wipe, "", key+"a"
	case 1:
		m.Kind, m.Val = api.Del, ""
	case 2, 3, 4:
		m.Table = api.Causal
		if m.At.Phys > 3 {
			m.Over = []api.Stamp{at(1+random.Intn(3), 0, 1)}
		}
	case 5:
		m.Expiry = 1 + random.Intn(30)
	}
	return m
}

func contents(random *rand.Rand, most int) state.Content {
	var l []api.Mut
	for range random.Intn(most) {
		l = append(l, some(random))
	}
	return state.Of(l...)
}

// reads: how many pages are read of a key, as the document words it.
func reads(p parts, key string) int {
	n := 0
	for i, l := range p.pages {
		ahead := slices.ContainsFunc(p.pages[i+1:], func(o leaf) bool { return o.first < key })
		if l.first <= key && !ahead && sieve.Of(p.keys...).May(key) {
			n++
		}
	}
	return n
}

// P16.1, P16.2: of any contents, against the document's words.
func TestAgainstModel(t *testing.T) {
	random := rand.New(rand.NewSource(16))
	for range 1500 {
		c := contents(random, 120)
		b := table.Put(c)
		if !bytes.Equal(b, take(c).bytes()) {
			t.Fatalf("the bytes of %v are %q", c, b)
		}
		x := open(t, c)
		if got, why := x.All(); why != api.OK || !state.Same(got, c) {
			t.Fatalf("%v is opened as %v, %v", c, got, why)
		}
		for range 10 {
			key := some(random).Key
			own := slices.DeleteFunc(slices.Concat(c.Cells, c.Sibs), func(m api.Mut) bool { return m.Key != key })
			slices.SortFunc(own, mem.Compare)
			was := x.Reads()
			if l := x.Get(key); !same(l, own) || x.Reads()-was != reads(take(c), key) {
				t.Fatalf("of %q there is in %v %v, with %d read", key, c, l, x.Reads()-was)
			}
		}
		if !same(x.Wipes(), c.Wipes) || x.Pages() != len(take(c).pages) {
			t.Fatalf("of %v there are %v, and %d pages", c, x.Wipes(), x.Pages())
		}
		n := random.Intn(len(b))
		if x, why := table.Open(b[:n]); x != nil || why != api.ErrShort {
			t.Fatalf("%v, cut at %d, is %v, %v", b, n, x, why)
		}
	}
}

// P16.1: bytes that are no table's.
func TestFaults(t *testing.T) {
	l := slices.Concat(cells(12), sibs("b", 5))
	c := state.Of(append(l, wipe("x", "y", 3), wipe("y", "z", 4))...)
	late, odd := put("a", "v", 0), put("a", "v", 9)
	odd.Table = 3
	row := leaves(l)
	inner := func(i int, b []byte) func(p *parts) { return func(p *parts) { p.pages[i].bytes = b } }
	for name, x := range map[string]struct {
		change func(p *parts)
		why    api.Errno
	}{
		"a table's":                    {func(p *parts) {}, api.OK},
		"another first key":            {func(p *parts) { p.pages[1].first = "b" }, api.ErrForm},
		"no first key":                 {func(p *parts) { p.pages[0].first = "" }, api.ErrForm},
		"a first key that is too long": {func(p *parts) { p.pages[0].first = strings.Repeat("a", 25) }, api.ErrForm},
		"a page of nothing":            {func(p *parts) { p.pages, p.count = append(p.pages, leaf{"z", page.Put(nil, nil)}), 4 }, api.ErrForm},
		"a page without bytes":         {inner(0, nil), api.ErrShort},
		"a page that is cut":           {inner(1, row[1].bytes[:len(row[1].bytes)-1]), api.ErrShort},
		"a page with a byte more":      {inner(1, append(slices.Clone(row[1].bytes), 0)), api.ErrForm},
		"a page with a needless byte":  {inner(1, append([]byte{128}, row[1].bytes...)), api.ErrForm},
		"a page that says nine":        {inner(1, append([]byte{9}, row[1].bytes[1:]...)), api.ErrForm},
		"pages cut elsewhere": {func(p *parts) {
			p.pages = []leaf{{"a", page.Put(nil, l[:1])}, {"b", page.Put(nil, l[1:2])}}
			p.count, p.keys = 2, []string{"a", "b"}
		}, api.ErrForm},
		"pages that fall":               {func(p *parts) { p.pages[0], p.pages[1] = p.pages[1], p.pages[0] }, api.ErrForm},
		"a page twice":                  {func(p *parts) { p.pages, p.count = append(p.pages, p.pages[2]), 4 }, api.ErrForm},
		"two cells of a key":            {func(p *parts) { p.pages[2] = leaves([]api.Mut{put("l", "v", 1), put("l", "v", 2)})[0] }, api.ErrForm},
		"a wipe in a page":              {func(p *parts) { *p = parts{1, leaves([]api.Mut{wipe("a", "b", 1)}), []string{"a"}, nil} }, api.ErrForm},
		"a mutation that may not be":    {func(p *parts) { p.pages[2].bytes = page.Put(nil, []api.Mut{late}) }, api.ErrMut},
		"one of no table":               {func(p *parts) { p.pages[0].bytes = page.Put(nil, []api.Mut{odd}) }, api.ErrMut},
		"another filter":                {func(p *parts) { p.keys[0] = "zz" }, api.ErrForm},
		"a filter of a key too many":    {func(p *parts) { p.keys = append(p.keys, "zz") }, api.ErrForm},
		"a filter of a key twice":       {func(p *parts) { p.keys = append(p.keys, p.keys[0]) }, api.ErrForm},
		"a filter of nothing":           {func(p *parts) { p.keys = nil }, api.ErrForm},
		"wipes that fall":               {func(p *parts) { p.wipes = []api.Mut{wipe("y", "z", 4), wipe("x", "y", 3)} }, api.ErrForm},
		"a wipe within":                 {func(p *parts) { p.wipes = []api.Mut{wipe("x", "y", 3), wipe("x", "z", 4)} }, api.ErrForm},
		"a wipe that hides a cell":      {func(p *parts) { p.wipes = []api.Mut{wipe("b", "c", 99)} }, api.ErrForm},
		"a wipe that hides no cell":     {func(p *parts) { p.wipes = []api.Mut{wipe("b", "c", 7), wipe("x", "z", 99)} }, api.OK},
		"a wipe that may not be":        {func(p *parts) { p.wipes = []api.Mut{wipe("y", "x", 4)} }, api.ErrMut},
		"a put where the wipes are":     {func(p *parts) { p.wipes = []api.Mut{put("x", "v", 3)} }, api.ErrForm},
		"a causal one where they are":   {func(p *parts) { p.wipes = []api.Mut{sib("x", "v", 3)} }, api.ErrForm},
		"a cell that is there, as well": {func(p *parts) { p.wipes = []api.Mut{l[0]} }, api.ErrForm},
		"cut, and a page wrong":         {func(p *parts) { p.count, p.pages[2].bytes = 99, page.Put(nil, []api.Mut{late}) }, api.ErrShort},
		"wipes that fall, and a page wrong": {func(p *parts) {
			p.wipes, p.pages[2].bytes = []api.Mut{wipe("y", "z", 4), wipe("x", "y", 3)}, page.Put(nil, []api.Mut{late})
		}, api.ErrMut},
		"a wrong wipe, and a page's key": {func(p *parts) { p.wipes, p.pages[1].first = []api.Mut{wipe("y", "x", 4)}, "b" }, api.ErrMut},
		"two pages wrong": {func(p *parts) {
			p.pages[1].bytes, p.pages[2].bytes = page.Put(nil, []api.Mut{odd}), nil
		}, api.ErrMut},
	} {
		p := take(c)
		x.change(&p)
		got, why := table.Open(p.bytes())
		if why != x.why || (got == nil) != (why != api.OK) {
			t.Errorf("%s: %v, %v", name, got, why)
		}
	}
	for n := range 9 {
		p := take(c)
		p.count = n
		if got, why := table.Open(p.bytes()); (got != nil) != (n == 3) || (why == api.OK) != (n == 3) {
			t.Errorf("of 3 pages said to be %d: %v, %v", n, got, why)
		}
	}
}

// P16.1, P1: bytes that don't go as far as they say.
func TestBytes(t *testing.T) {
	whole := table.Put(state.Of(append(cells(12), wipe("x", "y", 3))...))
	for name, x := range map[string]struct {
		b   []byte
		why api.Errno
	}{
		"none": {nil, api.ErrShort}, "one": {[]byte{9}, api.ErrShort}, "a needless one": {[]byte{128, 0}, api.ErrForm}, "a table of nothing": {[]byte{0, 1, 0, 0}, api.OK}, "without a filter": {[]byte{0}, api.ErrShort}, "with one without bits": {[]byte{0, 0, 0}, api.ErrForm}, "with one that has a bit": {[]byte{0, 1, 1, 0}, api.ErrForm}, "without wipes": {[]byte{0, 1, 0}, api.ErrShort},
		"2^61 pages": {[]byte{160, 128, 128, 128, 128, 128, 128, 128, 0}, api.ErrShort}, "2^62 pages": {[]byte{192, 128, 128, 128, 128, 128, 128, 128, 0}, api.ErrForm}, "a page of 2^60 bytes": {append([]byte{1, 1, 'a', 144}, 128, 128, 128, 128, 128, 128, 128, 0), api.ErrShort}, "a key of 25 bytes": {[]byte{1, 25, 'a'}, api.ErrForm}, "a key of 24 bytes": {[]byte{1, 24, 'a'}, api.ErrShort},
		"a byte more": {append(slices.Clone(whole), 0), api.ErrForm}, "a table behind": {append(slices.Clone(whole), whole...), api.ErrForm},
	} {
		if got, why := table.Open(x.b); why != x.why || (got == nil) != (why != api.OK) {
			t.Errorf("%s: %v, %v", name, got, why)
		}
	}
	for n := range whole {
		if x, why := table.Open(whole[:n]); x != nil || why != api.ErrShort {
			t.Errorf("cut at %d: %v, %v", n, x, why)
		}
	}
}

// P16.1, P1: of any bytes what is opened has just these.
func TestAnyBytes(t *testing.T) {
	random := rand.New(rand.NewSource(17))
	opened := 0
	for range 20000 {
		b := table.Put(contents(random, 12))
		for range random.Intn(3) {
			b[random.Intn(len(b))] = byte(random.Intn(256) >> random.Intn(8))
		}
		x, why := table.Open(b)
		if why != api.OK {
			if x != nil {
				t.Fatalf("beside %v there is a table of %v", why, b)
			}
			continue
		}
		opened++
		if c, why := x.All(); why != api.OK || !bytes.Equal(table.Put(c), b) {
			t.Fatalf("%v is opened as %v, %v", b, c, why)
		}
	}
	if opened < 1000 {
		t.Error("few were opened:", opened)
	}
}

// spoil writes over mutations, and over what lies behind their lists' lengths.
func spoil(l []api.Mut) {
	for i := range l {
		over := l[i].Over[:cap(l[i].Over)]
		for j := range over {
			over[j] = at(99, 99, 99)
		}
	}
	for i := range l[:cap(l)] {
		l[:cap(l)][i] = put("zzz", "spoilt", 99)
	}
}

// Rule 5: what is handed in stays as it is, and isn't kept; what is answered is new memory.
func TestAnswersAreNew(t *testing.T) {
	fresh := func() state.Content {
		return state.Of(put("b", "v", 1), put("a", "v", 2), wipe("x", "y", 3), sib("a", "v", 5, at(1, 0, 0)), sib("a", "w", 5, at(2, 0, 0)))
	}
	c := fresh()
	room := slices.Clone(append(c.Cells, del("zz", 9)))
	c.Cells = room[:2]
	b := table.Put(c)
	if !state.Same(c, fresh()) || !mut.Same(room[2], del("zz", 9)) {
		t.Fatal("what was handed in became", c, room)
	}
	was := slices.Clone(b)
	x, _ := table.Open(b)
	if !bytes.Equal(b, was) {
		t.Fatal("what was handed in became", b)
	}
	for i := range b {
		b[i] = 255
	}
	for range 2 {
		got, why := x.All()
		if why != api.OK || !state.Same(got, fresh()) || len(x.Get("a")) != 3 || !mut.Same(x.Get("a")[1], fresh().Sibs[0]) || !same(x.Wipes(), fresh().Wipes) {
			t.Fatal("the table became", got, why, x.Get("a"), x.Wipes())
		}
		spoil(got.Cells)
		spoil(got.Wipes)
		spoil(got.Sibs)
		spoil(x.Get("a"))
		spoil(x.Wipes())
	}
}

// P1: contents that no function told may be put, too; many mutations end.
func TestAnyContents(t *testing.T) {
	odd := []api.Mut{{}, wipe("z", "a", 3), sib("a", "v", 1, at(1, 0, 0)), put("b", "\xff", -1), {Table: 7, Kind: -1, Key: "\xff"}, put(strings.Repeat("k", 99), "v", 1)}
	for _, c := range []state.Content{{Cells: odd}, {Wipes: odd}, {Sibs: odd}, {Cells: odd, Wipes: odd, Sibs: odd}} {
		if x, why := table.Open(table.Put(c)); x != nil || why == api.OK {
			t.Errorf("%v is opened", c)
		}
	}
	var l []api.Mut
	for i := range 40000 {
		l = append(l, sib("k"+strings.Repeat("a", i%20), "v", 1+i))
	}
	c := state.Of(l...)
	x := open(t, c)
	if got, _ := x.All(); !state.Same(got, c) || len(x.Get("kaaa")) != 2000 || x.Pages() != 5000 || x.Reads() != 5000+251 {
		t.Error("there are", x.Pages(), x.Reads())
	}
	for n, why := range map[int]api.Errno{400: api.OK, 401: api.ErrForm} { // so many mutations layer 8 reads
		var c state.Content
		for i := range n {
			key := "k" + string(rune('a'+i/26)) + string(rune('a'+i%26))
			c.Wipes = append(c.Wipes, wipe(key, key+"a", 1+i))
		}
		if _, got := table.Open(table.Put(c)); got != why {
			t.Errorf("of %d wipes: %v", n, got)
		}
	}
}
