package sieve_test

import (
	"bytes"
	"math/big"
	"math/rand"
	"slices"
	"strconv"
	"strings"
	"testing"

	"cenotaph/api"
	"cenotaph/sieve"
	"cenotaph/wire"
)

// short: a number's lowest 32 bits.
func short(x *big.Int) *big.Int {
	return x.Mod(x, big.NewInt(1<<32))
}

// places: a key's bits, of so many, by great numbers.
func places(key string, n int) []int {
	a, b := big.NewInt(2166136261), big.NewInt(5381)
	for _, r := range []rune(key) {
		x := big.NewInt(int64(r))
		a = short(new(big.Int).Mul(new(big.Int).Xor(a, x), big.NewInt(16777619)))
		b = short(new(big.Int).Add(new(big.Int).Mul(b, big.NewInt(33)), x))
	}
	a.Xor(a, new(big.Int).Div(a, big.NewInt(8192)))
	b.SetBit(b, 0, 1)
	var l []int
	for i := range 4 {
		x := short(new(big.Int).Add(a, new(big.Int).Mul(b, big.NewInt(int64(i)))))
		l = append(l, int(x.Int64()%int64(n)))
	}
	return l
}

// of: the bytes of a filter of keys.
func of(keys ...string) []byte {
	size := 1 + (10*len(keys))/8
	if size > 65536 {
		size = 65536
	}
	set := make([]bool, 8*size)
	for _, k := range keys {
		for _, i := range places(k, len(set)) {
			set[i] = true
		}
	}
	b := make([]byte, size)
	for i, is := range set {
		if is {
			b[i/8] += 1 << (i % 8)
		}
	}
	return b
}

func ones(b []byte) int {
	n := 0
	for _, c := range b {
		n += strings.Count(strconv.FormatInt(int64(c), 2), "1")
	}
	return n
}

// raw: the bytes that a filter has.
func raw(f sieve.Filter) []byte {
	return []byte(wire.New(sieve.Put(nil, f)).Text(1 << 30))
}

// filter: that of these bytes.
func filter(b ...byte) sieve.Filter {
	return sieve.Get(wire.New(wire.Text(nil, string(b))))
}

// many: so many keys.
func many(n int) []string {
	var l []string
	for i := range n {
		l = append(l, "key"+strconv.Itoa(i))
	}
	return l
}

// P14.1: the bytes of filters, worked out by hand.
func TestOf(t *testing.T) {
	for _, c := range []struct {
		keys []string
		want []byte
	}{
		{nil, []byte{0}},
		{[]string{"a"}, []byte{20, 40}},
		{[]string{"a", "b"}, []byte{0, 60, 30}},
		{[]string{"a", "a"}, []byte{0, 60, 0}},
		{[]string{""}, []byte{67, 8}},
		{[]string{"\u00e9"}, []byte{0, 240}},
		{[]string{"\ufffd"}, []byte{36, 144}},
		{[]string{"\xff"}, []byte{36, 144}},
		{[]string{"\U0010ffff", "z"}, []byte{8, 33, 244}},
		{[]string{"key1", "key2", "key3", "key4", "key5", "key6"}, []byte{132, 89, 2, 200, 19, 30, 30, 32}},
	} {
		f := sieve.Of(c.keys...)
		if !bytes.Equal(raw(f), c.want) || !bytes.Equal(of(c.keys...), c.want) {
			t.Errorf("Of(%q) is %v, by great numbers %v", c.keys, raw(f), of(c.keys...))
		}
		if f.Size() != 8*len(c.want) || f.Set() != ones(c.want) {
			t.Errorf("Of(%q) has %d of %d bits", c.keys, f.Set(), f.Size())
		}
	}
}

// P14.1: how many bytes a filter has.
func TestSizes(t *testing.T) {
	for n, want := range map[int]int{0: 1, 1: 2, 2: 3, 3: 4, 4: 6, 5: 7, 8: 11, 100: 126, 52427: 65534, 52428: 65536, 52429: 65536, 60000: 65536, 65536: 65536, 65537: 65536, 100000: 65536} {
		keys := many(n)
		f := sieve.Of(keys...)
		if f.Size() != 8*want {
			t.Errorf("of %d keys there are %d bits", n, f.Size())
		}
		if got := sieve.Get(wire.New(sieve.Put(nil, f))); got.Size() != f.Size() || got.Set() != f.Set() {
			t.Errorf("of %d keys there are read %d bits", n, got.Size())
		}
		for _, k := range keys {
			if !f.May(k) {
				t.Fatalf("of %d keys %s may not be there", n, k)
			}
		}
	}
	if f := sieve.Of(slices.Repeat([]string{"a"}, 9)...); f.Size() != 8*12 || f.Set() != 4 {
		t.Errorf("of a key nine times there are %d of %d bits", f.Set(), f.Size())
	}
}

// P14.1: just those keys may be there all of whose bits are set.
func TestMay(t *testing.T) {
	random := rand.New(rand.NewSource(14))
	keys := append(many(60), "", "\xff", "\ufffd", "\u00e9", "\xc3", "a\xffb", "\U0010ffff", strings.Repeat("x", 1000))
	yes, no := 0, 0
	for range 300 {
		b := make([]byte, 1+random.Intn(20))
		random.Read(b)
		f := filter(b...)
		for _, k := range keys {
			want := true
			for _, i := range places(k, 8*len(b)) {
				want = want && b[i/8]>>(i%8)&1 == 1
			}
			if f.May(k) != want {
				t.Fatalf("May(%q) of %v is %v", k, b, !want)
			}
			if want {
				yes++
			} else {
				no++
			}
		}
	}
	if yes < 100 || no < 100 {
		t.Error(yes, no)
	}
	if sieve.Of().May("a") || sieve.Of().May("") {
		t.Error("what has no keys has some")
	}
	var zero sieve.Filter
	for _, k := range keys {
		if !zero.May(k) || !filter().May(k) || !filter(255).May(k) || filter(0).May(k) {
			t.Errorf("%q of no bits, of all, of none that is set", k)
		}
	}
}

// P14.2: how many bits are set, and how many there are.
func TestSetAndSize(t *testing.T) {
	for _, b := range [][]byte{{}, {0}, {255}, {1, 128}, {170, 0, 3, 64, 254}, bytes.Repeat([]byte{129}, 65536)} {
		if f := filter(b...); f.Set() != ones(b) || f.Size() != 8*len(b) || !bytes.Equal(raw(f), b) {
			t.Errorf("%.20v: %d of %d bits", b, f.Set(), f.Size())
		}
	}
	var zero sieve.Filter
	if zero.Set() != 0 || zero.Size() != 0 || !bytes.Equal(sieve.Put([]byte{7}, zero), []byte{7, 0}) {
		t.Error("the zero filter")
	}
}

// P14.2: the bits of both.
func TestJoin(t *testing.T) {
	for _, c := range []struct {
		a, b, want []byte
		ok         bool
	}{
		{nil, nil, nil, true}, {[]byte{0}, []byte{0}, []byte{0}, true}, {[]byte{5, 128}, []byte{3, 1}, []byte{7, 129}, true},
		{nil, []byte{1}, nil, false}, {[]byte{1}, nil, nil, false}, {[]byte{1}, []byte{1, 1}, nil, false}, {[]byte{1, 2, 3}, []byte{1, 2}, nil, false},
	} {
		a, b := filter(c.a...), filter(c.b...)
		f, ok := sieve.Join(a, b)
		if ok != c.ok || !bytes.Equal(raw(f), c.want) {
			t.Errorf("Join(%v, %v) is %v, %v", c.a, c.b, raw(f), ok)
		}
		if !bytes.Equal(raw(a), c.a) || !bytes.Equal(raw(b), c.b) {
			t.Errorf("Join(%v, %v) changed them", c.a, c.b)
		}
	}
}

// P14.2: filters as bytes.
func TestPutAndGet(t *testing.T) {
	if b := sieve.Put([]byte{9, 200}, sieve.Of("a")); !bytes.Equal(b, []byte{9, 200, 2, 20, 40}) {
		t.Error("Put is", b)
	}
	room := []byte{1, 2, 3, 4, 5}
	if out := sieve.Put(room[:1], sieve.Of("a")); !bytes.Equal(room, []byte{1, 2, 3, 4, 5}) || !bytes.Equal(out, []byte{1, 2, 20, 40}) {
		t.Error("the room behind became", room)
	}
	in := []byte{2, 20, 40, 7}
	r := wire.New(in)
	f := sieve.Get(r)
	in[1] = 0
	if !f.May("a") || f.Set() != 4 || r.Why() != api.OK || r.Num() != 7 {
		t.Error("Get:", raw(f), r.Why())
	}
	for _, c := range []struct {
		b   []byte
		why api.Errno
	}{
		{nil, api.ErrShort}, {[]byte{2, 20}, api.ErrShort}, {[]byte{130}, api.ErrShort}, {[]byte{128, 2, 20, 40}, api.ErrForm},
		{wire.Text(nil, strings.Repeat("\xff", 65537)), api.ErrForm}, {wire.Put(nil, 65537), api.ErrForm}, {wire.Put(nil, 65536), api.ErrShort}, {wire.Text(nil, strings.Repeat("\xff", 65536)), api.OK},
	} {
		r := wire.New(c.b)
		f := sieve.Get(r)
		if r.Why() != c.why || (f.Size() == 0) != (c.why != api.OK) || c.why != api.OK && f.Set() != 0 {
			t.Errorf("Get of %.9v is %d bits, %v", c.b, f.Size(), r.Why())
		}
	}
	r = wire.New([]byte{1, 255})
	r.Fail(api.ErrMut)
	if f := sieve.Get(r); f.Size() != 0 || r.Why() != api.ErrMut {
		t.Error("behind a fault:", f.Size(), r.Why())
	}
}

// P14.3: what was put into a filter may be there, joined with others, and read again, too.
func TestWhatWasPutMayBeThere(t *testing.T) {
	random := rand.New(rand.NewSource(143))
	for range 200 {
		n := random.Intn(30)
		draw := func() []string {
			var l []string
			for range n {
				k := make([]byte, random.Intn(6))
				random.Read(k)
				l = append(l, string(k))
			}
			return l
		}
		one, other := draw(), draw()
		a, b := sieve.Of(one...), sieve.Of(other...)
		both, ok := sieve.Join(a, b)
		read := sieve.Get(wire.New(sieve.Put(nil, both)))
		if !ok || !bytes.Equal(raw(a), of(one...)) || !bytes.Equal(raw(read), raw(both)) {
			t.Fatalf("filters of %d keys: %v", n, ok)
		}
		for _, k := range slices.Concat(one, other) {
			if !both.May(k) || !read.May(k) || slices.Contains(one, k) && !a.May(k) || slices.Contains(other, k) && !b.May(k) {
				t.Fatalf("%q may not be there", k)
			}
		}
	}
}
