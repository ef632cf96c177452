package state_test

import (
	"bytes"
	"math/rand"
	"slices"
	"strings"
	"testing"

	"cenotaph/api"
	"cenotaph/mut"
	"cenotaph/state"
	"cenotaph/wire"
)

// many: a content of so many mutations.
func many(n int) state.Content {
	var l []api.Mut
	for i := range n {
		l = append(l, put("k"+strings.Repeat("a", i%20), "v", 1+i/20))
		l[i].Table = api.Causal
	}
	return state.Of(l...)
}

// P8.4: the bytes are those of All.
func TestPut(t *testing.T) {
	if b := state.Put([]byte{7}, state.Content{}); !bytes.Equal(b, []byte{7, 0}) {
		t.Error("of nothing:", b)
	}
	want := "\x03\x01b\x02\x01\x00\x01v\x00\x01\x00\x00\x00" + "\x01a\x01\x03\x01b\x00\x00\x02\x00\x00\x00" + "\x01k\x01\x01\x00\x01v\x00\x03\x00\x00\x00"
	if b := state.Put(nil, state.Of(put("k", "v", 3), wipe("a", "b", 2), sib("b", "v", 1))); string(b) != want {
		t.Errorf("the bytes are %q", b)
	}
	room := bytes.Repeat([]byte{9}, 100)
	b := state.Put(room[:1], state.Of(put("k", "v", 3)))
	b[0] = 8
	if !bytes.Equal(room, bytes.Repeat([]byte{9}, 100)) {
		t.Error("what was handed in became", room)
	}
}

// P8.4: what was put is read as it was, whatever stands behind it; cut off it tells nothing.
func TestWhatWasPutIsRead(t *testing.T) {
	random := rand.New(rand.NewSource(4))
	for range 1000 {
		c := state.Of(several(random, 12)...)
		b := state.Put(nil, c)
		if !bytes.Equal(b, mut.All(nil, c.All())) {
			t.Fatalf("the bytes of %v are %v", c, b)
		}
		r := wire.New(append(bytes.Clone(b), 0, 255))
		if got := state.Get(r); !same(got, c) || r.Why() != api.OK || r.At() != len(b) {
			t.Fatalf("%v is read as %v: %v at %d", c, got, r.Why(), r.At())
		}
		n := random.Intn(len(b))
		r = wire.New(b[:n])
		if got := state.Get(r); !same(got, state.Content{}) || r.Why() != api.ErrShort {
			t.Fatalf("%v, cut at %d, is %v, %v", b, n, got, r.Why())
		}
	}
}

// P8.4: at most MaxMuts mutations are read.
func TestGetAtTheLimit(t *testing.T) {
	for n, why := range map[int]api.Errno{399: api.OK, 400: api.OK, 401: api.ErrForm, 1000: api.ErrForm} {
		c := many(n)
		if len(c.Sibs) != n {
			t.Fatal("there are", len(c.Sibs))
		}
		r := wire.New(state.Put(nil, c))
		got := state.Get(r)
		if why != api.OK {
			c = state.Content{}
		}
		if !same(got, c) || r.Why() != why {
			t.Errorf("of %d are read %d: %v", n, len(got.All()), r.Why())
		}
	}
}

// P8.4: bytes that are no content's, though they are those of mutations.
func TestGetFaults(t *testing.T) {
	broken := put("k", "v", 1)
	broken.Table = 3
	for name, c := range map[string]struct {
		l   []api.Mut
		why api.Errno
	}{
		"nothing":                   {nil, api.OK},
		"some that rise":            {[]api.Mut{put("k", "v", 1), wipe("a", "c", 2), sib("b", "v", 3)}, api.OK},
		"some that fall":            {[]api.Mut{put("k", "v", 2), put("j", "v", 1)}, api.ErrForm},
		"by keys, not by stamps":    {[]api.Mut{put("a", "v", 2), put("b", "v", 1)}, api.ErrForm},
		"a cell twice":              {[]api.Mut{put("k", "v", 1), put("k", "v", 1)}, api.ErrForm},
		"a wipe twice":              {[]api.Mut{wipe("a", "b", 1), wipe("a", "b", 1)}, api.ErrForm},
		"a causal one twice":        {[]api.Mut{sib("k", "v", 1), sib("k", "v", 1)}, api.ErrForm},
		"two of a key":              {[]api.Mut{put("k", "v", 1), del("k", 2)}, api.ErrForm},
		"two causal ones of a key":  {[]api.Mut{sib("k", "v", 1), sib("k", "v", 2, at(1, 0, 0))}, api.OK},
		"one that is wiped":         {[]api.Mut{put("k", "v", 1), wipe("a", "z", 2)}, api.ErrForm},
		"a wipe within":             {[]api.Mut{wipe("b", "c", 1), wipe("a", "z", 2)}, api.ErrForm},
		"one that may not be":       {[]api.Mut{broken}, api.ErrMut},
		"one that may not, behind":  {[]api.Mut{put("k", "v", 1), del("k", 2), broken}, api.ErrMut},
		"one that falls, and wrong": {[]api.Mut{put("k", "v", 2), put("j", "v", 1), broken}, api.ErrMut},
	} {
		want := state.Of(c.l...)
		if c.why != api.OK {
			want = state.Content{}
		}
		r := wire.New(mut.All(nil, c.l))
		if got := state.Get(r); !same(got, want) || r.Why() != c.why {
			t.Errorf("%s: %v, %v", name, got, r.Why())
		}
	}
	for name, c := range map[string]struct {
		b   string
		why api.Errno
	}{"no bytes": {"", api.ErrShort}, "a needless byte": {"\x80\x00", api.ErrForm}, "more than there are": {"\x02" + string(mut.Put(nil, put("k", "v", 1))), api.ErrShort}, "401 of nothing": {"\x83\x11", api.ErrForm}, "400 of nothing": {"\x83\x10", api.ErrShort}} {
		r := wire.New([]byte(c.b))
		if got := state.Get(r); !same(got, state.Content{}) || r.Why() != c.why {
			t.Errorf("%s: %v, %v", name, got, r.Why())
		}
	}
	for _, why := range []api.Errno{api.ErrShort, api.ErrMut, api.ErrDown, -3} {
		r := wire.New(state.Put(nil, many(3)))
		r.Fail(why)
		if got := state.Get(r); !same(got, state.Content{}) || r.Why() != why || r.At() != 0 {
			t.Errorf("behind %v: %v, %v", why, got, r.Why())
		}
	}
}

// P8.4, P1: of any bytes what is read is a content, and its bytes are those that were read.
func TestAnyBytes(t *testing.T) {
	random := rand.New(rand.NewSource(5))
	read := 0
	for range 30000 {
		b := state.Put(nil, state.Of(several(random, 4)...))
		for range random.Intn(3) {
			b[random.Intn(len(b))] = byte(random.Intn(256) >> random.Intn(8))
		}
		r := wire.New(b)
		c := state.Get(r)
		if r.Why() != api.OK {
			if !same(c, state.Content{}) {
				t.Fatalf("beside %v there is %v", r.Why(), c)
			}
			continue
		}
		read++
		if !same(c, model(c.All())) || !slices.Equal(state.Put(nil, c), r.Taken(0)) {
			t.Fatalf("%v is read as %v", b, c)
		}
	}
	if read < 1000 {
		t.Error("few were read:", read)
	}
}
