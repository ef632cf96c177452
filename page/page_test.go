package page_test

import (
	"bytes"
	"math/rand"
	"slices"
	"strings"
	"testing"

	"cenotaph/api"
	"cenotaph/mem"
	"cenotaph/mut"
	"cenotaph/page"
	"cenotaph/wire"
)

func at(phys, logic, who int) api.Stamp { return api.Stamp{Phys: phys, Logic: logic, Who: who} }

func put(key, val string, phys int) api.Mut {
	return api.Mut{Table: api.Last, Kind: api.Put, Key: key, Val: val, At: at(phys, 0, 0)}
}

func wipe(key, end string, phys int) api.Mut {
	return api.Mut{Table: api.Last, Kind: api.Wipe, Key: key, End: end, At: at(phys, 0, 0)}
}

func sib(key, val string, phys int, over ...api.Stamp) api.Mut {
	return api.Mut{Table: api.Causal, Kind: api.Put, Key: key, Val: val, At: at(phys, 0, 0), Over: over}
}

func same(a, b []api.Mut) bool { return slices.EqualFunc(a, b, mut.Same) }

// part is how a mutation stands in a page: how much of the key ahead, what is left of its own, and its rest.
type part struct {
	shared int
	left   string
	m      api.Mut
}

// raw: the bytes of parts, whether or not they are a page's.
func raw(l ...part) []byte {
	b := []byte{byte(len(l))}
	for _, p := range l {
		b = mut.Rest(wire.Text(wire.Put(b, p.shared), p.left), p.m)
	}
	return b
}

// P15.1: the bytes.
func TestPut(t *testing.T) {
	long := strings.Repeat("k", api.MaxKey)
	for name, x := range map[string]struct {
		l    []api.Mut
		want []byte
	}{
		"nothing":                      {nil, []byte{0}},
		"a put":                        {[]api.Mut{put("k", "v", 3)}, []byte{1, 0, 1, 'k', 1, 1, 0, 1, 'v', 0, 3, 0, 0, 0}},
		"ab and ac":                    {[]api.Mut{put("ab", "", 1), put("ac", "", 1)}, raw(part{0, "ab", put("ab", "", 1)}, part{1, "c", put("ac", "", 1)})},
		"one key":                      {[]api.Mut{put("k", "", 1), put("k", "", 2), wipe("k", "l", 3)}, raw(part{0, "k", put("k", "", 1)}, part{1, "", put("k", "", 2)}, part{1, "", wipe("k", "l", 3)})},
		"longer keys":                  {[]api.Mut{put("k", "", 1), put("kk", "", 1), put("kkl", "", 1)}, raw(part{0, "k", put("k", "", 1)}, part{1, "k", put("kk", "", 1)}, part{2, "l", put("kkl", "", 1)})},
		"a shorter key":                {[]api.Mut{put("kkl", "", 1), put("l", "", 1)}, raw(part{0, "kkl", put("kkl", "", 1)}, part{0, "l", put("l", "", 1)})},
		"the key ahead counts alone":   {[]api.Mut{put("aab", "", 1), put("ab", "", 1), put("abb", "", 1)}, raw(part{0, "aab", put("aab", "", 1)}, part{1, "b", put("ab", "", 1)}, part{2, "b", put("abb", "", 1)})},
		"runes of one first byte":      {[]api.Mut{put("k\u00e9", "", 1), put("k\u00ea", "", 1)}, raw(part{0, "k\u00e9", put("k", "", 1)}, part{1, "\u00ea", put("k", "", 1)})},
		"runes of two bytes the same":  {[]api.Mut{put("\u20ac\u20ac", "", 1), put("\u20ac\u20ad", "", 1)}, raw(part{0, "\u20ac\u20ac", put("k", "", 1)}, part{3, "\u20ad", put("k", "", 1)})},
		"runes of three bytes, others": {[]api.Mut{put("\U0001f600", "", 1), put("\U0001f601", "", 1)}, raw(part{0, "\U0001f600", put("k", "", 1)}, part{0, "\U0001f601", put("k", "", 1)})},
		"runes that are the same":      {[]api.Mut{put("\u00e9a", "", 1), put("\u00e9b", "", 1)}, raw(part{0, "\u00e9a", put("k", "", 1)}, part{2, "b", put("k", "", 1)})},
		"a rune that they may have":    {[]api.Mut{put("a\ufffd", "", 1), put("a\ufffdb", "", 1)}, raw(part{0, "a\ufffd", put("k", "", 1)}, part{4, "b", put("k", "", 1)})},
		"the longest key":              {[]api.Mut{put(long, "", 1), put(long, "", 2)}, raw(part{0, long, put("k", "", 1)}, part{24, "", put("k", "", 2)})},
		"causal ones":                  {[]api.Mut{sib("k", "v", 9, at(1, 2, 3))}, []byte{1, 0, 1, 'k', 2, 1, 0, 1, 'v', 0, 9, 0, 0, 1, 1, 2, 3}},
	} {
		if b := page.Put(nil, x.l); !bytes.Equal(b, x.want) {
			t.Errorf("%s: %v", name, b)
		}
		if b := page.Put([]byte{7, 8}, x.l); !bytes.Equal(b, append([]byte{7, 8}, x.want...)) {
			t.Errorf("%s: behind other bytes %v", name, b)
		}
		r := wire.New(append(x.want, 5))
		if l := page.Get(r); !same(l, x.l) || r.Why() != api.OK || r.At() != len(x.want) {
			t.Errorf("%s: read as %v, %v, up to %d", name, l, r.Why(), r.At())
		}
	}
}

// P15.2: why there is no page.
func TestGetFaults(t *testing.T) {
	long := strings.Repeat("k", api.MaxKey)
	k, ab := put("k", "", 1), put("ab", "", 1)
	var eight, nine []part
	for i := range page.Most {
		eight = append(eight, part{min(i, 1), "k"[min(i, 1):], put("k", "", 1+i)})
	}
	nine = append(slices.Clone(eight), part{1, "", put("k", "", 9)})
	for name, x := range map[string]struct {
		b   []byte
		why api.Errno
	}{
		"as many as may be":           {raw(eight...), api.OK},
		"one more":                    {raw(nine...), api.ErrForm},
		"one more, of no bytes":       {[]byte{9}, api.ErrForm},
		"many more":                   {[]byte{255, 255, 255, 127}, api.ErrForm},
		"no bytes":                    {nil, api.ErrShort},
		"nothing behind":              {[]byte{1}, api.ErrShort},
		"a needless byte":             {[]byte{128, 0}, api.ErrForm},
		"a text beyond the end":       {[]byte{1, 0, 2, 'k'}, api.ErrShort},
		"a text of a key's length":    {raw(part{0, long, k}), api.OK},
		"a longer text":               {raw(part{0, long + "k", k}), api.ErrForm},
		"a longer key":                {raw(part{0, long, k}, part{24, "k", k}), api.ErrMut},
		"no key":                      {raw(part{0, "", k}), api.ErrMut},
		"not a key":                   {raw(part{0, "1", k}), api.ErrMut},
		"not a key, then too short":   {raw(part{0, "1", k})[:8], api.ErrShort},
		"half a rune":                 {raw(part{0, "k\xc3", k}), api.ErrMut},
		"a put that may not be":       {raw(part{0, "k", put("k", "", 0)}), api.ErrMut},
		"the second may not be":       {raw(part{0, "a", k}, part{0, "k", put("k", "\xff", 1)}), api.ErrMut},
		"a wipe that ends ahead":      {raw(part{0, "k", wipe("k", "a", 1)}), api.ErrMut},
		"more shared than there is":   {raw(part{1, "k", k}), api.ErrForm},
		"of the second, too":          {raw(part{0, "k", k}, part{2, "k", k}), api.ErrForm},
		"more shared, then too short": {[]byte{1, 1}, api.ErrForm},
		"less shared than there is":   {raw(part{0, "ab", ab}, part{0, "ac", ab}), api.ErrForm},
		"less shared, of one key":     {raw(part{0, "k", k}, part{0, "k", put("k", "", 2)}), api.ErrForm},
		"half a rune shared":          {raw(part{0, "\u00e9", k}, part{1, "\xaa", k}), api.ErrForm},
		"less than all runes shared":  {raw(part{0, "\u00e9a", k}, part{0, "\u00e9b", k}), api.ErrForm},
		"one twice":                   {raw(part{0, "k", k}, part{1, "", k}), api.ErrForm},
		"keys that fall":              {raw(part{0, "l", k}, part{0, "k", k}), api.ErrForm},
		"stamps that fall":            {raw(part{0, "k", put("k", "", 2)}, part{1, "", k}), api.ErrForm},
		"the last one falls":          {raw(part{0, "k", k}, part{1, "l", k}, part{1, "k", k}), api.ErrForm},
		"no page's, and one wrong":    {raw(part{0, "l", k}, part{0, "k", k}, part{1, "-", put("k", "", 0)}), api.ErrMut},
		"no page's, and too short":    {raw(part{0, "l", k}, part{0, "k", k})[:23], api.ErrShort},
	} {
		r := wire.New(x.b)
		l := page.Get(r)
		if r.Why() != x.why || x.why != api.OK && len(l) != 0 {
			t.Errorf("%s: %v, %v", name, l, r.Why())
		}
	}
	r := wire.New(raw(part{0, "k", k}))
	r.Fail(api.ErrNone)
	if l := page.Get(r); len(l) != 0 || r.Why() != api.ErrNone || r.At() != 0 {
		t.Error("behind a fault it read", l, r.Why(), r.At())
	}
}

var texts = []string{"a", "ab", "abc", "a\u00e9", "a\u00ea", "\u00e9", "\u00e9\u00e9", "\u20ac", "\u20ad", "\U0001f600", "\U0001f601a", "b-_9", strings.Repeat("a", 24)}

// some: mutations that may be, each once, rising.
func some(random *rand.Rand, most int) []api.Mut {
	x := &mem.Tree{}
	for range random.Intn(most + 1) {
		m := put(texts[random.Intn(len(texts))], "v", 1+random.Intn(300))
		switch random.Intn(4) {
		case 0:
			m.Table, m.Over = api.Causal, []api.Stamp{at(0, 0, 1)}
		case 1:
			m.Kind, m.Val, m.End = api.Wipe, "", m.Key+"z"
			if len(m.End) > api.MaxKey {
				m.End = "z"
			}
		case 2:
			m.Expiry = random.Intn(1000)
		}
		x.Put(m)
	}
	return slices.Collect(x.All())
}

// P15.1, P15.2: what was put is read as it was; cut off anywhere it is too short; what is read of any bytes has just these bytes.
func TestReadAsPut(t *testing.T) {
	random := rand.New(rand.NewSource(15))
	for range 3000 {
		l := some(random, page.Most)
		b := page.Put(nil, l)
		r := wire.New(slices.Concat([]byte{1}, b, b))
		r.Num()
		if got := page.Get(r); !same(got, l) || r.At() != 1+len(b) {
			t.Fatalf("%v was read as %v", l, got)
		}
		if got := page.Get(r); !same(got, l) || r.End() != api.OK {
			t.Fatalf("%v was read the second time as %v", l, got)
		}
		n := random.Intn(len(b))
		r = wire.New(b[:n])
		if got := page.Get(r); len(got) != 0 || r.Why() != api.ErrShort {
			t.Fatalf("of %v the first %d bytes were read as %v, %v", l, n, got, r.Why())
		}
		b[n] += byte(1 + random.Intn(255))
		r = wire.New(b)
		got := page.Get(r)
		if r.Why() != api.OK && len(got) > 0 {
			t.Fatalf("%v, spoilt, was read as %v, %v", l, got, r.Why())
		}
		if r.Why() == api.OK && (!bytes.Equal(page.Put(nil, got), r.Taken(0)) || !slices.IsSortedFunc(got, mem.Compare)) {
			t.Fatalf("%v, spoilt, was read as %v", b, got)
		}
	}
}

// P15.2: rows of Most, but for the last one.
func TestCut(t *testing.T) {
	var l []api.Mut
	for i := range 50 {
		pages := page.Cut(l)
		if len(pages) != (len(l)+7)/8 || !same(slices.Concat(pages...), l) {
			t.Errorf("of %d mutations there are %d pages", i, len(pages))
		}
		for j, p := range pages {
			if len(p) != min(8, len(l)-8*j) {
				t.Errorf("of %d mutations the page %d has %d", i, j, len(p))
			}
		}
		l = append(l, sib("k", "v", 9+i, at(1, 0, 0)))
	}
	if page.Most != 8 {
		t.Error(page.Most)
	}
}

// Rule 5: what is handed in stays as it is, and what is told is new memory, of which no two lists share any.
func TestAnswersAreNew(t *testing.T) {
	var l []api.Mut
	for i := range 20 {
		l = append(l, sib("k", "v", 9+i, at(1, 0, 0)))
	}
	want := mut.Copies(l)
	pages := page.Cut(l[:17])
	for _, p := range pages {
		_ = append(p, put("spoilt", "", 1))
	}
	if !same(slices.Concat(pages...), want[:17]) || !same(l, want) {
		t.Error("two pages share memory:", pages)
	}
	pages[0][0].Over[0] = at(7, 7, 7)
	pages[1][1] = api.Mut{}
	if !same(l, want) || !same(pages[1][2:], want[10:16]) || !mut.Same(pages[0][1], want[1]) {
		t.Error("they became", l, pages)
	}
	room := []byte{1, 2, 3, 4}
	a, b := page.Put(room[:1], l[:1]), page.Put(room[:1], l[1:2])
	if !bytes.Equal(room, []byte{1, 2, 3, 4}) || a[0] != 1 || bytes.Equal(a, b) || !same(l, want) {
		t.Error("the bytes became", room, a, b)
	}
	bytesOf := page.Put(nil, l[:2])
	got := page.Get(wire.New(bytesOf))
	got[0].Over[0] = at(7, 7, 7)
	if !mut.Same(got[1], want[1]) || !same(page.Get(wire.New(bytesOf)), want[:2]) {
		t.Error("two mutations share memory:", got)
	}
}

// P1: lists of which nothing is promised end, too.
func TestAnyLists(t *testing.T) {
	odd := []api.Mut{{}, put("\xc3", "\xff", -1), put("\xc3\xa9", "", 1), put("\xc3", "", 1), put("\ufffd", "", 1), put("\xff", "", 1), wipe(strings.Repeat("k", 99), "", 0), {Table: -1, Kind: -1, Expiry: -1, Over: []api.Stamp{{}, {}}}, put("b", "", 1), put("a", "", 1)}
	r := wire.New(page.Put(nil, odd))
	if l := page.Get(r); len(l) != 0 || r.Why() != api.ErrForm {
		t.Error("it was read as", l, r.Why())
	}
	if n := len(page.Cut(odd)); n != 2 {
		t.Error("there are pages:", n)
	}
	page.Put(nil, slices.Repeat(odd, 3000))
	page.Cut(slices.Repeat(odd, 3000))
}
