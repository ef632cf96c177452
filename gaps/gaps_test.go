package gaps_test

import (
	"bytes"
	"math"
	"math/big"
	"math/rand"
	"slices"
	"testing"

	"cenotaph/api"
	"cenotaph/gaps"
	"cenotaph/wire"
)

const greatest = 1<<62 - 1

// count: so many numbers, from one on.
func count(from, n int) []int {
	var l []int
	for i := range n {
		l = append(l, from+i)
	}
	return l
}

// plain: a row's bytes by the promise's words, with great numbers; false: it is none.
func plain(l []int) ([]byte, bool) {
	if len(l) > 4096 {
		return nil, false
	}
	b := wire.Put(nil, len(l))
	for i, n := range l {
		if n < 0 || n > greatest || i > 0 && n <= l[i-1] {
			return nil, false
		}
		gap := big.NewInt(int64(n))
		if i > 0 {
			ahead := big.NewInt(int64(l[i-1]))
			gap.Sub(gap, ahead.Add(ahead, big.NewInt(1)))
		}
		b = wire.Put(b, int(gap.Int64()))
	}
	return b, true
}

// P47.1: rows as bytes, and what is no row.
func TestPut(t *testing.T) {
	for _, c := range []struct {
		l    []int
		want []byte
		ok   bool
	}{
		{nil, []byte{0}, true}, {[]int{}, []byte{0}, true}, {[]int{0}, []byte{1, 0}, true}, {[]int{3, 4, 9}, []byte{3, 3, 0, 4}, true}, {[]int{0, 1, 2}, []byte{3, 0, 0, 0}, true}, {[]int{0, 301}, []byte{2, 0, 130, 44}, true},
		{[]int{greatest}, []byte{1, 191, 255, 255, 255, 255, 255, 255, 255, 127}, true}, {[]int{0, greatest}, []byte{2, 0, 191, 255, 255, 255, 255, 255, 255, 255, 126}, true}, {[]int{greatest - 1, greatest}, []byte{2, 191, 255, 255, 255, 255, 255, 255, 255, 126, 0}, true},
		{[]int{-1}, nil, false}, {[]int{-1, 0}, nil, false}, {[]int{math.MinInt}, nil, false}, {[]int{greatest + 1}, nil, false}, {[]int{math.MaxInt}, nil, false}, {[]int{0, greatest + 1}, nil, false}, {[]int{greatest, greatest + 1}, nil, false},
		{[]int{1, 1}, nil, false}, {[]int{0, 0}, nil, false}, {[]int{2, 1}, nil, false}, {[]int{1, 3, 2}, nil, false}, {[]int{greatest, greatest}, nil, false}, {[]int{greatest, 0}, nil, false}, {[]int{5, -1}, nil, false}, {[]int{math.MaxInt, math.MinInt}, nil, false},
	} {
		for _, b := range []string{"", "x\x80"} {
			want := b + string(c.want)
			if got, ok := gaps.Put([]byte(b), c.l...); string(got) != want || ok != c.ok {
				t.Errorf("Put(%q, %v) is %v, %v", b, c.l, got, ok)
			}
		}
		if n := gaps.Size(c.l...); n != len(c.want) {
			t.Errorf("Size of %v is %d", c.l, n)
		}
	}
}

// P47.1: a row of Most numbers is one; one more isn't.
func TestMost(t *testing.T) {
	if gaps.Most != 4096 {
		t.Fatal(gaps.Most)
	}
	l := count(7, 4096)
	b, ok := gaps.Put([]byte{9}, l...)
	if !ok || len(b) != 1+2+4096 || gaps.Size(l...) != 2+4096 {
		t.Errorf("Put of 4096 is %d bytes, %v", len(b), ok)
	}
	r := wire.New(b)
	if r.Num() != 9 || !slices.Equal(gaps.Get(r), l) || r.End() != api.OK {
		t.Error("Get of 4096:", r.Why())
	}
	l = append(l, 1<<30)
	if b, ok := gaps.Put([]byte{9}, l...); ok || !bytes.Equal(b, []byte{9}) || gaps.Size(l...) != 0 {
		t.Errorf("Put of 4097 is %d bytes, %v", len(b), ok)
	}
	r = wire.New(append([]byte{160, 1}, make([]byte, 4097)...))
	if l := gaps.Get(r); len(l) != 0 || r.Why() != api.ErrForm {
		t.Error("Get of 4097:", len(l), r.Why())
	}
}

// P47.1: what comes of bytes, and why nothing does.
func TestGet(t *testing.T) {
	most := []byte{191, 255, 255, 255, 255, 255, 255, 255, 127}
	for _, c := range []struct {
		b    []byte
		want []int
		why  api.Errno
	}{
		{[]byte{0}, nil, api.OK}, {[]byte{1, 0}, []int{0}, api.OK}, {[]byte{3, 3, 0, 4}, []int{3, 4, 9}, api.OK}, {[]byte{2, 0, 130, 44}, []int{0, 301}, api.OK}, {slices.Concat([]byte{1}, most), []int{greatest}, api.OK},
		{nil, nil, api.ErrShort}, {[]byte{1}, nil, api.ErrShort}, {[]byte{3, 3, 0}, nil, api.ErrShort}, {[]byte{2, 5, 130}, nil, api.ErrShort}, {[]byte{160, 0}, nil, api.ErrShort}, {[]byte{160, 1}, nil, api.ErrForm},
		{[]byte{128}, nil, api.ErrForm}, {[]byte{2, 5, 128, 1}, nil, api.ErrForm}, {[]byte{1, 192, 128, 128, 128, 128, 128, 128, 128, 0}, nil, api.ErrForm}, {[]byte{129, 128, 128, 128, 128, 0}, nil, api.ErrForm},
		{slices.Concat([]byte{2}, most, []byte{0}), nil, api.ErrForm}, {slices.Concat([]byte{2}, most, most), nil, api.ErrForm}, {slices.Concat([]byte{2, 0}, most), nil, api.ErrForm}, {slices.Concat([]byte{3}, most, most, most), nil, api.ErrForm},
		{slices.Concat([]byte{3}, most, []byte{0}), nil, api.ErrForm}, {slices.Concat([]byte{2}, most), nil, api.ErrShort}, {slices.Concat([]byte{2}, most, []byte{255}), nil, api.ErrShort},
		{[]byte{2, 0, 191, 255, 255, 255, 255, 255, 255, 255, 126}, []int{0, greatest}, api.OK}, {[]byte{2, 191, 255, 255, 255, 255, 255, 255, 255, 126, 0}, []int{greatest - 1, greatest}, api.OK}, {[]byte{2, 191, 255, 255, 255, 255, 255, 255, 255, 126, 1}, nil, api.ErrForm},
	} {
		r := wire.New(c.b)
		if l := gaps.Get(r); !slices.Equal(l, c.want) || r.Why() != c.why || c.why == api.OK && r.Left() != 0 {
			t.Errorf("Get of %v is %v, %v", c.b, l, r.Why())
		}
	}
	r := wire.New([]byte{1, 5})
	r.Fail(api.ErrMut)
	if l := gaps.Get(r); len(l) != 0 || r.Why() != api.ErrMut || r.At() != 0 {
		t.Error("behind a fault:", l, r.Why())
	}
}

// P47.1: what was put is read as it was, whatever stands behind it, and cut off it isn't; against the promise's words.
func TestAgainstWords(t *testing.T) {
	random := rand.New(rand.NewSource(47))
	rows := 0
	for range 20000 {
		var l []int
		n := random.Intn(1<<random.Intn(62)) - random.Intn(2)*random.Intn(3)
		for range random.Intn(12) {
			l = append(l, n)
			n += random.Intn(1 << random.Intn(1+random.Intn(62)))
		}
		want, is := plain(l)
		b, ok := gaps.Put(nil, l...)
		if ok != is || !bytes.Equal(b, want) || gaps.Size(l...) != len(want) {
			t.Fatalf("Put of %v is %v, %v", l, b, ok)
		}
		if !ok {
			continue
		}
		rows++
		r := wire.New(append(b, 255))
		if got := gaps.Get(r); !slices.Equal(got, l) || r.Why() != api.OK || r.Left() != 1 {
			t.Fatalf("%v is read as %v: %v", l, got, r.Why())
		}
		r = wire.New(b[:random.Intn(len(b))])
		if got := gaps.Get(r); len(got) != 0 || r.Why() != api.ErrShort {
			t.Fatalf("%v, cut off, is read as %v: %v", l, got, r.Why())
		}
	}
	if rows < 1000 {
		t.Error("few were rows:", rows)
	}
}

// P1, P47.1: of any bytes what is read, put again, is what was read.
func TestAnyBytes(t *testing.T) {
	random := rand.New(rand.NewSource(471))
	for range 50000 {
		b := make([]byte, random.Intn(30))
		for i := range b {
			b[i] = byte(random.Intn(256) >> random.Intn(8))
		}
		r := wire.New(b)
		l := gaps.Get(r)
		if r.Why() != api.OK {
			if len(l) != 0 {
				t.Fatalf("beside %v there is %v", r.Why(), l)
			}
			continue
		}
		if again, ok := gaps.Put(nil, l...); !ok || !bytes.Equal(again, r.Taken(0)) {
			t.Fatalf("%v is read as %v", b, l)
		}
	}
}

// P47.2: runs, of rows that don't rise, too.
func TestRuns(t *testing.T) {
	for _, c := range []struct {
		l    []int
		want [][2]int
	}{
		{nil, nil}, {[]int{5}, [][2]int{{5, 1}}}, {[]int{3, 4, 9}, [][2]int{{3, 2}, {9, 1}}}, {[]int{0, 1, 2, 3}, [][2]int{{0, 4}}}, {[]int{1, 3, 5}, [][2]int{{1, 1}, {3, 1}, {5, 1}}}, {[]int{1, 2, 4, 5, 6, 8}, [][2]int{{1, 2}, {4, 3}, {8, 1}}},
		{[]int{-2, -1, 0, 1}, [][2]int{{-2, 4}}}, {[]int{2, 1}, [][2]int{{2, 1}, {1, 1}}}, {[]int{1, 1, 2}, [][2]int{{1, 1}, {1, 2}}}, {[]int{1, 2, 2, 3, 1, 2}, [][2]int{{1, 2}, {2, 2}, {1, 2}}},
		{[]int{math.MaxInt - 1, math.MaxInt}, [][2]int{{math.MaxInt - 1, 2}}}, {[]int{math.MaxInt, math.MinInt}, [][2]int{{math.MaxInt, 1}, {math.MinInt, 1}}}, {[]int{math.MinInt, math.MinInt + 1}, [][2]int{{math.MinInt, 2}}}, {[]int{math.MinInt, math.MaxInt}, [][2]int{{math.MinInt, 1}, {math.MaxInt, 1}}},
		{count(9, 10000), [][2]int{{9, 10000}}},
	} {
		if got := gaps.Runs(c.l...); !slices.Equal(got, c.want) {
			t.Errorf("Runs of %.50v is %v", c.l, got)
		}
	}
}

// Rule 5: what is handed in stays as it is, behind its length, too; what is answered is new.
func TestMemory(t *testing.T) {
	room := []byte{1, 2, 3, 4, 5, 6}
	for _, l := range [][]int{{3, 4, 9}, {}, {4, 3}, {-1}, count(0, 5000)} {
		out, _ := gaps.Put(room[:1], l...)
		out[0] = 99
		_ = append(out, 88)
		if !bytes.Equal(room, []byte{1, 2, 3, 4, 5, 6}) {
			t.Errorf("Put of %.9v changed what was handed in: %v", l, room)
		}
	}
	row := []int{1, 2, 5}
	runs := gaps.Runs(row[:2]...)
	runs[0][0] = 9
	if _, ok := gaps.Put(nil, row[:2]...); !ok || !slices.Equal(row, []int{1, 2, 5}) || runs[0][1] != 2 {
		t.Error("a row became", row)
	}
}
