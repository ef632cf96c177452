package wire_test

import (
	"bytes"
	"math"
	"math/big"
	"math/rand"
	"slices"
	"strings"
	"testing"

	"cenotaph/api"
	"cenotaph/wire"
)

const greatest = 1<<62 - 1

// numbers: those about each power of two, from 0 to the greatest int.
func numbers() []int {
	l := []int{0, 1, 2, 3, 300, 1234567890123, math.MaxInt}
	for p := 2; p < 63; p++ {
		n := 1 << p
		l = append(l, n-1, n, n+1)
	}
	return l
}

// digits: a number's bytes by its text of the base 128.
func digits(n int) []byte {
	var b []byte
	for x, base, d := big.NewInt(int64(n)), big.NewInt(128), new(big.Int); ; {
		x.DivMod(x, base, d)
		b = append(b, byte(d.Int64())+128)
		if x.Sign() == 0 {
			break
		}
	}
	b[0] -= 128
	slices.Reverse(b)
	return b
}

// row: a byte so many times, and others.
func row(first byte, n int, of byte, last ...byte) []byte {
	return slices.Concat([]byte{first}, bytes.Repeat([]byte{of}, n), last)
}

// P3.1: numbers.
func TestPut(t *testing.T) {
	for _, c := range []struct {
		n    int
		want []byte
	}{
		{0, []byte{0}}, {1, []byte{1}}, {127, []byte{127}}, {128, []byte{129, 0}}, {129, []byte{129, 1}}, {300, []byte{130, 44}},
		{16383, []byte{255, 127}}, {16384, []byte{129, 128, 0}}, {1 << 40, []byte{160, 128, 128, 128, 128, 0}},
		{greatest, row(191, 7, 255, 127)}, {greatest + 1, row(192, 7, 128, 0)}, {math.MaxInt, row(255, 7, 255, 127)},
		{-1, []byte{0}}, {-300, []byte{0}}, {math.MinInt, []byte{0}},
	} {
		if b := wire.Put(nil, c.n); !bytes.Equal(b, c.want) {
			t.Errorf("Put(nil, %d) is %v", c.n, b)
		}
		if b := wire.Put([]byte{7, 200}, c.n); !bytes.Equal(b, append([]byte{7, 200}, c.want...)) {
			t.Errorf("Put({7, 200}, %d) is %v", c.n, b)
		}
	}
	for _, n := range numbers() {
		if b := wire.Put([]byte{}, n); !bytes.Equal(b, digits(n)) {
			t.Errorf("Put of %d is %v", n, b)
		}
	}
}

// P3.1: texts.
func TestText(t *testing.T) {
	for _, c := range []struct {
		s    string
		want string
	}{
		{"", "\x00"}, {"a", "\x01a"}, {"\xff\x00\n", "\x03\xff\x00\n"}, {"\u00e9\u20ac", "\x05\u00e9\u20ac"},
		{strings.Repeat("a", 127), "\x7f" + strings.Repeat("a", 127)}, {strings.Repeat("a", 128), "\x81\x00" + strings.Repeat("a", 128)}, {strings.Repeat("\u00e9", 150), "\x82\x2c" + strings.Repeat("\u00e9", 150)},
	} {
		if b := wire.Text(nil, c.s); string(b) != c.want {
			t.Errorf("Text(nil, %q) is %q", c.s, b)
		}
		if b := wire.Text([]byte("x\x80"), c.s); string(b) != "x\x80"+c.want {
			t.Errorf("Text(x 128, %q) is %q", c.s, b)
		}
	}
}

// Rule 5: what is handed in stays as it is, behind its length, too; what is answered is new.
func TestBytesAreNew(t *testing.T) {
	for _, put := range []func([]byte) []byte{
		func(b []byte) []byte { return wire.Put(b, 5) },
		func(b []byte) []byte { return wire.Text(b, "yy") },
		func(b []byte) []byte { return wire.Text(b, "") },
	} {
		room := []byte{1, 2, 3, 4, 5, 6}
		out := put(room[:1])
		if !bytes.Equal(room, []byte{1, 2, 3, 4, 5, 6}) {
			t.Error("the room behind became", room)
		}
		out[0] = 9
		if room[0] != 1 {
			t.Error("what was answered is what was handed in")
		}
		one, other := put(out), wire.Put(out, 77)
		if !bytes.Equal(one, put(out)) || other[len(out)] != 77 {
			t.Error("two answers share memory")
		}
	}
	in := []byte{1, 2, 1, 'k'}
	r := wire.New(in)
	in[0], in[3] = 8, 'z'
	if r.Num() != 1 || r.Num() != 2 || r.Text(1) != "k" {
		t.Error("the reader reads what was changed later")
	}
	taken := r.Taken(0)
	taken[1] = 9
	_ = append(taken[:2], 9)
	if !bytes.Equal(r.Taken(0), []byte{1, 2, 1, 'k'}) {
		t.Error("what was taken is the reader's own")
	}
	if r = wire.New(in[:1]); r.Num() != 8 || r.Num() != 0 || r.Why() != api.ErrShort {
		t.Error("what lies behind the length was read")
	}
}

// P3.2: the numbers that are there, and why others aren't.
func TestNum(t *testing.T) {
	for _, c := range []struct {
		b   []byte
		n   int
		why api.Errno
	}{
		{nil, 0, api.ErrShort}, {[]byte{0}, 0, api.OK}, {[]byte{127}, 127, api.OK}, {[]byte{130, 44}, 300, api.OK}, {[]byte{129, 128, 0}, 1 << 14, api.OK},
		{[]byte{129}, 0, api.ErrShort}, {[]byte{255, 255}, 0, api.ErrShort},
		{[]byte{128}, 0, api.ErrForm}, {[]byte{128, 0}, 0, api.ErrForm}, {[]byte{128, 1}, 0, api.ErrForm}, {[]byte{128, 128}, 0, api.ErrForm}, {[]byte{128, 129, 0}, 0, api.ErrForm},
		{row(191, 7, 255, 127), greatest, api.OK}, {row(191, 7, 255), 0, api.ErrShort}, {row(191, 7, 255, 255), 0, api.ErrShort}, {row(191, 7, 255, 255, 0), 0, api.ErrForm},
		{row(192, 7, 128, 0), 0, api.ErrForm}, {row(192, 7, 128, 128), 0, api.ErrForm}, {row(192, 7, 128), 0, api.ErrShort}, {row(192, 6, 128), 0, api.ErrShort}, {row(255, 7, 255), 0, api.ErrShort}, {row(255, 7, 255, 127), 0, api.ErrForm},
		{row(192, 5, 128, 0), 1 << 48, api.OK}, {row(192, 6, 128, 0), 1 << 55, api.OK},
		{row(129, 7, 128, 0), 1 << 56, api.OK}, {row(129, 8, 128), 0, api.ErrShort}, {row(129, 8, 128, 0), 0, api.ErrForm}, {row(255, 1000, 255, 0), 0, api.ErrForm}, {row(129, 1000, 128, 0), 0, api.ErrForm},
	} {
		for _, tail := range [][]byte{nil, {0}, {128}, {255, 1}} {
			if c.why == api.ErrShort && tail != nil {
				continue
			}
			r := wire.New(slices.Concat(c.b, tail))
			n := r.Num()
			at := len(c.b)
			if c.why != api.OK {
				at = 0
			}
			if n != c.n || r.Why() != c.why || r.At() != at || r.Left() != len(c.b)+len(tail)-at {
				t.Errorf("Num of %v and %v is %d, %v, at %d, %d left", c.b, tail, n, r.Why(), r.At(), r.Left())
			}
		}
	}
}

// P3.2: numbers of at most so much.
func TestCount(t *testing.T) {
	for _, c := range []struct {
		b       []byte
		most, n int
		why     api.Errno
	}{
		{[]byte{5}, 6, 5, api.OK}, {[]byte{5}, 5, 5, api.OK}, {[]byte{5}, 4, 0, api.ErrForm}, {[]byte{5}, 0, 0, api.ErrForm}, {[]byte{5}, math.MaxInt, 5, api.OK},
		{[]byte{0}, 0, 0, api.OK}, {[]byte{0}, -1, 0, api.ErrForm}, {[]byte{0}, math.MinInt, 0, api.ErrForm}, {[]byte{130, 44}, 300, 300, api.OK}, {[]byte{130, 44}, 299, 0, api.ErrForm},
		{nil, 4, 0, api.ErrShort}, {nil, -1, 0, api.ErrShort}, {[]byte{255}, 4, 0, api.ErrShort}, {[]byte{128, 9}, 4, 0, api.ErrForm},
		{row(191, 7, 255, 127), greatest, greatest, api.OK}, {row(191, 7, 255, 127), greatest - 1, 0, api.ErrForm}, {row(192, 7, 128, 0), math.MaxInt, 0, api.ErrForm},
	} {
		r := wire.New(c.b)
		n := r.Count(c.most)
		if n != c.n || r.Why() != c.why || (r.At() == 0) != (c.why != api.OK) {
			t.Errorf("Count(%d) of %v is %d, %v, at %d", c.most, c.b, n, r.Why(), r.At())
		}
	}
}

// P3.2: texts of at most so many bytes.
func TestReadText(t *testing.T) {
	for _, c := range []struct {
		b    string
		most int
		s    string
		why  api.Errno
	}{
		{"\x00", 0, "", api.OK}, {"\x00", 9, "", api.OK}, {"\x00", -1, "", api.ErrForm}, {"\x00", math.MinInt, "", api.ErrForm},
		{"\x02ab", 2, "ab", api.OK}, {"\x02ab", 1, "", api.ErrForm}, {"\x02ab", math.MaxInt, "ab", api.OK}, {"\x02\xff\x00", 2, "\xff\x00", api.OK},
		{"\x02a", 2, "", api.ErrShort}, {"\x02", 2, "", api.ErrShort}, {"\x02a", 1, "", api.ErrForm}, {"\x02", 0, "", api.ErrForm},
		{"", 2, "", api.ErrShort}, {"", -1, "", api.ErrShort}, {"\x81", 2, "", api.ErrShort}, {"\x80\x00", 2, "", api.ErrForm}, {"\x82\x2cabc", 1000, "", api.ErrShort}, {"\x82\x2cabc", 299, "", api.ErrForm},
		{"\xbf" + strings.Repeat("\xff", 7) + "\x7fabc", math.MaxInt, "", api.ErrShort}, {"\xc0" + strings.Repeat("\x80", 7) + "\x00abc", math.MaxInt, "", api.ErrForm},
		{"\x81\x00" + strings.Repeat("x", 128), 128, strings.Repeat("x", 128), api.OK},
	} {
		r := wire.New([]byte(c.b))
		s := r.Text(c.most)
		at := len(c.b)
		if c.why != api.OK {
			at = 0
		}
		if s != c.s || r.Why() != c.why || r.At() != at || r.Left() != len(c.b)-at {
			t.Errorf("Text(%d) of %q is %q, %v, at %d", c.most, c.b, s, r.Why(), r.At())
		}
	}
}

// P3.2: behind a fault nothing is read, and the fault stays.
func TestBehindFaults(t *testing.T) {
	for _, c := range []struct {
		why  api.Errno
		fail func(r *wire.Reader)
	}{
		{api.ErrForm, func(r *wire.Reader) { r.Count(4) }}, {api.ErrForm, func(r *wire.Reader) { r.Text(4) }}, {api.ErrShort, func(r *wire.Reader) { r.Text(5) }},
		{api.ErrForm, func(r *wire.Reader) { r.End() }}, {api.ErrMut, func(r *wire.Reader) { r.Fail(api.ErrMut) }}, {-3, func(r *wire.Reader) { r.Fail(-3) }},
		{api.ErrMut, func(r *wire.Reader) { r.Fail(api.OK); r.Fail(api.ErrMut); r.Fail(api.ErrShort); r.Fail(api.OK) }},
	} {
		r := wire.New([]byte{1, 130, 44, 5, 1, 'k'})
		if r.Num() != 1 || r.Num() != 300 || r.Why() != api.OK {
			t.Fatal(r.Why())
		}
		c.fail(r)
		for range 2 {
			if r.Num() != 0 || r.Count(9) != 0 || r.Text(9) != "" || r.End() != c.why || r.Why() != c.why {
				t.Errorf("behind the fault %v there is %v", c.why, r.Why())
			}
			r.Fail(api.ErrText)
		}
		if r.At() != 3 || r.Left() != 3 || !bytes.Equal(r.Taken(1), []byte{130, 44}) {
			t.Errorf("behind the fault %v the place is %d", c.why, r.At())
		}
	}
}

// P3.2: places, what was taken, and the end.
func TestPlaces(t *testing.T) {
	r := wire.New([]byte{130, 44, 2, 'a', 'b', 7})
	for _, c := range []struct {
		read     func()
		at, left int
	}{
		{func() {}, 0, 6}, {func() { r.Num() }, 2, 4}, {func() { r.Text(2) }, 5, 1}, {func() { r.Count(7) }, 6, 0},
	} {
		c.read()
		if r.At() != c.at || r.Left() != c.left || r.Why() != api.OK {
			t.Errorf("at %d, %d left, %v", r.At(), r.Left(), r.Why())
		}
		for _, from := range []int{math.MinInt, -1, c.at + 1, 7, math.MaxInt} {
			if b := r.Taken(from); len(b) != 0 {
				t.Errorf("at %d, Taken(%d) is %v", c.at, from, b)
			}
		}
		for from := 0; from <= c.at; from++ {
			if b := r.Taken(from); !bytes.Equal(b, []byte{130, 44, 2, 'a', 'b', 7}[from:c.at]) {
				t.Errorf("at %d, Taken(%d) is %v", c.at, from, b)
			}
		}
	}
	if r.End() != api.OK || r.Why() != api.OK || r.Num() != 0 || r.End() != api.ErrShort {
		t.Error("at the end:", r.Why())
	}
	if r = wire.New(nil); r.End() != api.OK || r.At() != 0 || r.Left() != 0 || len(r.Taken(0)) != 0 {
		t.Error("of no bytes:", r.Why())
	}
	if r = wire.New([]byte{0}); r.End() != api.ErrForm || r.Num() != 0 || r.Why() != api.ErrForm || r.At() != 0 {
		t.Error("with a byte left:", r.Why())
	}
}

// P3.1, P3.2: of all short rows of bytes what is read is just what Put writes.
func TestNumOfAllShortRows(t *testing.T) {
	for n := range 1 << 16 {
		for _, b := range [][]byte{{byte(n >> 8), byte(n)}, {129, byte(n >> 8), byte(n)}, {byte(n >> 8)}} {
			r := wire.New(b)
			got := r.Num()
			end := slices.IndexFunc(b, func(c byte) bool { return c < 128 }) + 1
			want := api.OK
			if b[0] == 128 {
				want = api.ErrForm
			} else if end == 0 {
				want = api.ErrShort
			}
			if r.Why() != want || want == api.OK && (r.At() != end || !bytes.Equal(wire.Put(nil, got), b[:end])) || want != api.OK && (got != 0 || r.At() != 0) {
				t.Fatalf("Num of %v is %d, %v, at %d", b, got, r.Why(), r.At())
			}
		}
	}
}

// P3.3: what was put is read as it was, whatever stands behind it.
func TestWhatWasPutIsRead(t *testing.T) {
	for _, n := range numbers() {
		for _, tail := range [][]byte{nil, {0}, {128}, {255, 255}} {
			r := wire.New(append(wire.Put(nil, n), tail...))
			if n > greatest {
				if r.Num() != 0 || r.Why() != api.ErrForm {
					t.Errorf("%d is read: %v", n, r.Why())
				}
			} else if r.Num() != n || r.Why() != api.OK || r.Left() != len(tail) {
				t.Errorf("%d isn't read as it was: %v", n, r.Why())
			}
		}
	}
	random := rand.New(rand.NewSource(3))
	for range 300 {
		var b []byte
		var nums []int
		var texts []string
		for range random.Intn(20) {
			n := random.Intn(greatest) >> random.Intn(62)
			s := make([]byte, random.Intn(200))
			random.Read(s)
			nums, texts = append(nums, n), append(texts, string(s))
			b = wire.Text(wire.Put(b, n), string(s))
		}
		tail := make([]byte, random.Intn(4))
		random.Read(tail)
		r := wire.New(slices.Concat(b, tail))
		for i, n := range nums {
			if got := r.Num(); got != n {
				t.Fatalf("%d is read as %d: %v", n, got, r.Why())
			}
			if got := r.Text(len(texts[i])); got != texts[i] {
				t.Fatalf("%q is read as %q: %v", texts[i], got, r.Why())
			}
		}
		if r.Why() != api.OK || r.At() != len(b) || r.Left() != len(tail) || !bytes.Equal(r.Taken(0), b) {
			t.Fatalf("behind all: %v, at %d of %d", r.Why(), r.At(), len(b))
		}
	}
}

// P1: any calls of any reader end, and none panics; a fault that is told stays.
func TestAnyCalls(t *testing.T) {
	random := rand.New(rand.NewSource(4))
	most := []int{math.MinInt, -1, 0, 1, 2, 5, 200, math.MaxInt}
	for range 5000 {
		b := make([]byte, random.Intn(30))
		random.Read(b)
		r := wire.New(b)
		for range 12 {
			why, at := r.Why(), r.At()
			switch m := most[random.Intn(len(most))]; random.Intn(4) {
			case 0:
				r.Num()
			case 1:
				r.Text(m)
			case 2:
				r.Count(m)
			case 3:
				r.Taken(m)
			}
			if why != api.OK && (r.Why() != why || r.At() != at) || r.At() < at || r.At()+r.Left() != len(b) || r.Why() != api.OK && r.At() != at {
				t.Fatalf("of %v: %v at %d became %v at %d", b, why, at, r.Why(), r.At())
			}
		}
	}
}
