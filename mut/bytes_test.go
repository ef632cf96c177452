package mut_test

import (
	"bytes"
	"math"
	"math/rand"
	"slices"
	"strings"
	"testing"

	"cenotaph/api"
	"cenotaph/mut"
	"cenotaph/wire"
)

// several: mutations that may be, of all kinds, and at the limits.
func several() []api.Mut {
	l := []api.Mut{put(), del(), wipe(), sib(), gone()}
	m := put()
	m.Key, m.Val, m.Expiry = strings.Repeat("a", api.MaxKey), strings.Repeat("\u00e9", api.MaxVal/2), api.MaxPhys
	m.At = at(api.MaxPhys, api.MaxPhys, api.MaxPhys)
	l = append(l, m)
	m = wipe()
	m.End = "k" + strings.Repeat("z", api.MaxKey-1)
	l = append(l, m)
	m = sib()
	m.At, m.Over = at(300, 128, 4), row(api.MaxOver)
	l = append(l, m)
	m = put()
	m.Val, m.Expiry, m.At = "", 0, at(0, 0, 1)
	return append(l, m)
}

// P7.3: the bytes.
func TestPut(t *testing.T) {
	for _, c := range []struct {
		m         api.Mut
		key, rest string
	}{
		{api.Mut{Table: api.Last, Kind: api.Put, Key: "k", At: at(1, 0, 0)}, "\x01k", "\x01\x01\x00\x00\x00\x01\x00\x00\x00"},
		{put(), "\x01k", "\x01\x01\x00\x01v\x09\x05\x01\x02\x00"},
		{del(), "\x01k", "\x01\x02\x00\x00\x00\x05\x01\x02\x00"},
		{wipe(), "\x01k", "\x01\x03\x01m\x00\x00\x05\x01\x02\x00"},
		{sib(), "\x01k", "\x02\x01\x00\x01v\x00\x05\x01\x02\x02\x01\x00\x03\x04\x02\x00"},
		{api.Mut{Table: api.Causal, Kind: api.Del, Key: "\u00e9b", At: at(300, 0, 128)}, "\x03\u00e9b", "\x02\x02\x00\x00\x00\x82\x2c\x00\x81\x00\x00"},
	} {
		for _, b := range []string{"", "x", "\x80\xff"} {
			if got := mut.Rest([]byte(b), c.m); string(got) != b+c.rest {
				t.Errorf("Rest(%q, %v) is %v", b, c.m, got)
			}
			if got := mut.Put([]byte(b), c.m); string(got) != b+c.key+c.rest {
				t.Errorf("Put(%q, %v) is %v", b, c.m, got)
			}
		}
	}
}

// P7.3: lists.
func TestAll(t *testing.T) {
	l := several()
	want := []byte{7, 200, byte(len(l))}
	for _, m := range l {
		want = mut.Put(want, m)
	}
	if got := mut.All([]byte{7, 200}, l); !bytes.Equal(got, want) {
		t.Errorf("All is %v", got)
	}
	if got := mut.All([]byte{9}, nil); !bytes.Equal(got, []byte{9, 0}) {
		t.Errorf("All of nothing is %v", got)
	}
	if got := mut.All(nil, []api.Mut{}); !bytes.Equal(got, []byte{0}) {
		t.Errorf("All of nothing is %v", got)
	}
	if got := mut.All(nil, slices.Repeat([]api.Mut{del()}, 300)); got[0] != 130 || got[1] != 44 || len(got) != 2+300*len(mut.Put(nil, del())) {
		t.Errorf("All of 300 has %d bytes", len(got))
	}
}

// Rule 5: what is handed in stays as it is, behind its length, too; what is answered is new.
func TestBytesAreNew(t *testing.T) {
	for name, put := range map[string]func([]byte) []byte{
		"Rest":       func(b []byte) []byte { return mut.Rest(b, sib()) },
		"Put":        func(b []byte) []byte { return mut.Put(b, sib()) },
		"All":        func(b []byte) []byte { return mut.All(b, []api.Mut{sib(), del()}) },
		"All of nil": func(b []byte) []byte { return mut.All(b, nil) },
	} {
		room := bytes.Repeat([]byte{9}, 100)
		out := put(room[:1])
		if !bytes.Equal(room, bytes.Repeat([]byte{9}, 100)) {
			t.Error(name, ": the room behind became", room)
		}
		out[0] = 8
		if room[0] != 9 {
			t.Error(name, ": what was answered is what was handed in")
		}
		one := put(out)
		was := bytes.Clone(one)
		other := put(out)
		other[len(out)] = 77
		if !bytes.Equal(one, was) {
			t.Error(name, ": two answers share memory")
		}
	}
	in := mut.All(nil, []api.Mut{sib(), sib()})
	l := mut.List(wire.New(in), 2)
	l[0].Over[0] = at(9, 9, 9)
	l[0].Over = append(l[0].Over, at(9, 9, 9))
	if !mut.Same(l[1], sib()) {
		t.Error("two mutations of one list share memory")
	}
}

// P7.3, P7.4: what was put is read as it was, whatever stands behind it.
func TestWhatWasPutIsRead(t *testing.T) {
	for _, m := range several() {
		if !mut.Right(m) {
			t.Fatal("it may not be", m)
		}
		for _, tail := range []string{"", "\x00", "\xff\xff"} {
			r := wire.New(append(mut.Put(nil, m), tail...))
			if got := mut.Get(r); !mut.Same(got, m) || r.Why() != api.OK || r.Left() != len(tail) {
				t.Errorf("%v is read as %v: %v, %d left", m, got, r.Why(), r.Left())
			}
			r = wire.New(append(mut.Rest(nil, m), tail...))
			if got := mut.With(r, m.Key); !mut.Same(got, m) || r.Why() != api.OK || r.Left() != len(tail) {
				t.Errorf("%v is read as %v: %v, %d left", m, got, r.Why(), r.Left())
			}
		}
	}
	for n := range len(several()) + 1 {
		l := several()[:n]
		for _, most := range []int{n, n + 1, math.MaxInt} {
			r := wire.New(append(mut.All(nil, l), 0))
			if got := mut.List(r, most); !slices.EqualFunc(got, l, mut.Same) || r.Why() != api.OK || r.Left() != 1 {
				t.Errorf("List(%d) of %d is %v: %v", most, n, got, r.Why())
			}
		}
		r := wire.New(mut.All(nil, l))
		if got := mut.List(r, n-1); len(got) != 0 || r.Why() != api.ErrForm {
			t.Errorf("List(%d) of %d is %v: %v", n-1, n, got, r.Why())
		}
	}
}

// P7.3: With takes the key that it is given.
func TestWithKeys(t *testing.T) {
	b := mut.Rest(nil, wipe()) // up to ahead of m
	for key, why := range map[string]api.Errno{"k": api.OK, "a": api.OK, "l9": api.OK, "m": api.ErrMut, "z": api.ErrMut, "": api.ErrMut, "1": api.ErrMut, "a\xff": api.ErrMut, strings.Repeat("a", api.MaxKey): api.OK, strings.Repeat("a", api.MaxKey+1): api.ErrMut} {
		want := wipe()
		want.Key = key
		if why != api.OK {
			want = api.Mut{}
		}
		r := wire.New(b)
		if got := mut.With(r, key); !mut.Same(got, want) || r.Why() != why {
			t.Errorf("With %q is %v, %v", key, got, r.Why())
		}
	}
}

// bare: the bytes of a mutation, whether it may be or not, by layer 3 alone.
func bare(key string, table, kind int, end, val string, expiry int, s api.Stamp, over ...api.Stamp) []byte {
	b := wire.Text(nil, key)
	b = wire.Put(wire.Put(b, table), kind)
	b = wire.Text(wire.Text(b, end), val)
	b = wire.Put(b, expiry)
	b = wire.Put(wire.Put(wire.Put(b, s.Phys), s.Logic), s.Who)
	b = wire.Put(b, len(over))
	for _, o := range over {
		b = wire.Put(wire.Put(wire.Put(b, o.Phys), o.Logic), o.Who)
	}
	return b
}

// P7.3: why nothing is read.
func TestFaults(t *testing.T) {
	long := strings.Repeat("a", 25)
	for name, c := range map[string]struct {
		b   []byte
		why api.Errno
	}{
		"nothing":               {nil, api.ErrShort},
		"a key of 25 bytes":     {bare(long, 1, 2, "", "", 0, at(1, 0, 0)), api.ErrForm},
		"an end of 25 bytes":    {bare("a", 1, 3, long, "", 0, at(1, 0, 0)), api.ErrForm},
		"a value of 65 bytes":   {bare("a", 1, 1, "", strings.Repeat("a", 65), 0, at(1, 0, 0)), api.ErrForm},
		"25 over":               {bare("a", 2, 1, "", "", 0, at(99, 0, 0), row(25)...), api.ErrForm},
		"an end of 24 bytes":    {bare("a", 1, 3, long[1:], "", 0, at(1, 0, 0)), api.OK},
		"a value of 64 bytes":   {bare("a", 1, 1, "", strings.Repeat("a", 64), 0, at(1, 0, 0)), api.OK},
		"24 over":               {bare("a", 2, 1, "", "", 0, at(99, 0, 0), row(24)...), api.OK},
		"a number of no form":   {[]byte("\x01k\x80\x01\x01"), api.ErrForm},
		"no table":              {bare("a", 0, 1, "", "", 0, at(1, 0, 0)), api.ErrMut},
		"table 3":               {bare("a", 3, 1, "", "", 0, at(1, 0, 0)), api.ErrMut},
		"a great table":         {bare("a", 1<<62-1, 1, "", "", 0, at(1, 0, 0)), api.ErrMut},
		"a table of 2^32 and 1": {bare("a", 1<<32+1, 1, "", "", 0, at(1, 0, 0)), api.ErrMut},
		"kind 4":                {bare("a", 1, 4, "", "", 0, at(1, 0, 0)), api.ErrMut},
		"a wipe of causal":      {bare("a", 2, 3, "b", "", 0, at(1, 0, 0)), api.ErrMut},
		"no key":                {bare("", 1, 1, "", "", 0, at(1, 0, 0)), api.ErrMut},
		"not a key":             {bare("a b", 1, 1, "", "", 0, at(1, 0, 0)), api.ErrMut},
		"no stamp":              {bare("a", 1, 1, "", "", 0, at(0, 0, 0)), api.ErrMut},
		"a stamp beyond":        {bare("a", 1, 1, "", "", 0, at(1, 0, 1<<40+1)), api.ErrMut},
		"an expiry beyond":      {bare("a", 1, 1, "", "", 1<<40+1, at(1, 0, 0)), api.ErrMut},
		"a broken value":        {bare("a", 1, 1, "", "\xff", 0, at(1, 0, 0)), api.ErrMut},
		"over that falls":       {bare("a", 2, 1, "", "", 0, at(9, 0, 0), at(2, 0, 0), at(1, 0, 0)), api.ErrMut},
		"over of Last":          {bare("a", 1, 1, "", "", 0, at(9, 0, 0), at(2, 0, 0)), api.ErrMut},
		"no key, and cut":       {[]byte("\x00\x01\x01"), api.ErrShort},
		"no table, a long end":  {bare("a", 0, 1, long, "", 0, at(1, 0, 0)), api.ErrForm},
	} {
		r := wire.New(c.b)
		got := mut.Get(r)
		if r.Why() != c.why || mut.Same(got, api.Mut{}) != (c.why != api.OK) {
			t.Errorf("%s: Get is %v, %v", name, got, r.Why())
		}
		r = wire.New(append([]byte{1}, c.b...))
		if l := mut.List(r, 1); r.Why() != c.why || (len(l) == 0) != (c.why != api.OK) {
			t.Errorf("%s: List is %v, %v", name, l, r.Why())
		}
		r = wire.New(slices.Concat([]byte{2}, mut.Put(nil, sib()), c.b))
		if l := mut.List(r, 2); r.Why() != c.why || (len(l) == 0) != (c.why != api.OK) {
			t.Errorf("%s: List with one ahead is %v, %v", name, l, r.Why())
		}
	}
}

// P7.3: bytes that are cut off anywhere tell nothing.
func TestCutOff(t *testing.T) {
	for _, m := range several() {
		b, rest := mut.Put(nil, m), mut.Rest(nil, m)
		for n := range len(b) {
			r := wire.New(b[:n])
			if got := mut.Get(r); !mut.Same(got, api.Mut{}) || r.Why() != api.ErrShort {
				t.Fatalf("%v, cut at %d, is %v, %v", b, n, got, r.Why())
			}
		}
		for n := range len(rest) {
			r := wire.New(rest[:n])
			if got := mut.With(r, m.Key); !mut.Same(got, api.Mut{}) || r.Why() != api.ErrShort {
				t.Fatalf("%v, cut at %d, is %v, %v", rest, n, got, r.Why())
			}
		}
	}
	b := mut.All(nil, several())
	for n := range len(b) {
		r := wire.New(b[:n])
		if got := mut.List(r, 100); len(got) != 0 || r.Why() != api.ErrShort {
			t.Fatalf("%v, cut at %d, is %v, %v", b, n, got, r.Why())
		}
	}
}

// P7.3, P1: lists that announce more than there is end, too.
func TestListAnnouncesTooMany(t *testing.T) {
	for _, n := range []int{1, 2, 1 << 31, 1<<62 - 1} {
		r := wire.New(wire.Put(nil, n))
		if l := mut.List(r, math.MaxInt); len(l) != 0 || r.Why() != api.ErrShort {
			t.Errorf("of %d: %v, %v", n, l, r.Why())
		}
	}
	for _, most := range []int{math.MinInt, -1} {
		r := wire.New([]byte{0})
		if l := mut.List(r, most); len(l) != 0 || r.Why() != api.ErrForm {
			t.Errorf("List(%d) is %v, %v", most, l, r.Why())
		}
	}
}

// P7.3: behind a fault nothing is read, and the fault stays.
func TestBehindFaults(t *testing.T) {
	for _, why := range []api.Errno{api.ErrShort, api.ErrForm, api.ErrMut, api.ErrDown, -3} {
		for _, b := range [][]byte{mut.Put(nil, sib()), mut.Rest(nil, sib()), mut.All(nil, several()), nil} {
			r := wire.New(b)
			r.Fail(why)
			if !mut.Same(mut.Get(r), api.Mut{}) || !mut.Same(mut.With(r, "k"), api.Mut{}) || len(mut.List(r, 9)) != 0 || r.Why() != why || r.At() != 0 {
				t.Errorf("behind %v: %v at %d", why, r.Why(), r.At())
			}
		}
	}
	r := wire.New(slices.Concat(bare("", 1, 1, "", "", 0, at(1, 0, 0)), mut.Put(nil, put())))
	mut.Get(r)
	if !mut.Same(mut.Get(r), api.Mut{}) || r.Why() != api.ErrMut {
		t.Error("behind ErrMut another one is read")
	}
}

// P1, P7.3: of any bytes what is read may be, and its bytes are those that were read.
func TestAnyBytes(t *testing.T) {
	random := rand.New(rand.NewSource(7))
	l := several()
	read := 0
	for range 100000 {
		b := mut.Put(nil, l[random.Intn(len(l))])
		for range random.Intn(3) {
			b[random.Intn(len(b))] = byte(random.Intn(256) >> random.Intn(8))
		}
		r := wire.New(b[:len(b)-random.Intn(2)*random.Intn(len(b))])
		m := mut.Get(r)
		if r.Why() != api.OK {
			if !mut.Same(m, api.Mut{}) {
				t.Fatalf("beside %v there is %v", r.Why(), m)
			}
			continue
		}
		read++
		if !mut.Right(m) || !bytes.Equal(mut.Put(nil, m), r.Taken(0)) {
			t.Fatalf("%v is read as %v", b, m)
		}
	}
	if read < 1000 {
		t.Error("few were read:", read)
	}
}
