package frame_test

import (
	"bytes"
	"math/rand"
	"slices"
	"testing"

	"cenotaph/frame"
	"cenotaph/wire"
)

// told: the records that are told, in memory that is asked whether it is their own.
func told(b []byte) [][]byte {
	return slices.Collect(frame.All(b))
}

func same(a, b [][]byte) bool {
	return slices.EqualFunc(a, b, bytes.Equal)
}

// holds: do All, Whole and Last tell just these records, that take so many bytes?
func holds(t *testing.T, b []byte, want [][]byte, whole int) {
	t.Helper()
	if got := told(b); !same(got, want) {
		t.Errorf("All of %.60q is %.60q", b, got)
	}
	if n := frame.Whole(b); n != whole {
		t.Errorf("Whole of %.60q is %d, not %d", b, n, whole)
	}
	last, ok := frame.Last(b)
	if ok != (len(want) > 0) || !ok && last != nil || ok && !bytes.Equal(last, want[len(want)-1]) {
		t.Errorf("Last of %.60q is %.60q, %v", b, last, ok)
	}
}

func texts(l ...string) [][]byte {
	var all [][]byte
	for _, s := range l {
		all = append(all, []byte(s))
	}
	return all
}

// P12.1: the bytes of a record.
func TestPut(t *testing.T) {
	for _, c := range []struct {
		b, rec []byte
		want   string
	}{
		{nil, nil, "\x00"}, {[]byte{}, []byte{}, "\x00"}, {nil, []byte{7, 8}, "\x02\x07\x08"}, {[]byte{2, 7, 8}, []byte{9}, "\x02\x07\x08\x01\x09"},
		{[]byte{200}, []byte{128, 255, 0}, "\xc8\x03\x80\xff\x00"}, {nil, bytes.Repeat([]byte{1}, 300), "\x82\x2c" + string(bytes.Repeat([]byte{1}, 300))},
	} {
		if b := frame.Put(c.b, c.rec); string(b) != c.want {
			t.Errorf("Put(%v, %v) is %v", c.b, c.rec, b)
		}
	}
}

// P12.1: what is told of bytes, whole, cut off, and of no form.
func TestWhatIsTold(t *testing.T) {
	for _, c := range []struct {
		b     string
		want  [][]byte
		whole int
	}{
		{"", nil, 0},
		{"\x00", texts(""), 1},
		{"\x00\x00", texts("", ""), 2},
		{"\x02ab\x01c", texts("ab", "c"), 5},
		{"\x02ab\x01", texts("ab"), 3},
		{"\x02ab", texts("ab"), 3},
		{"\x02a", nil, 0},
		{"\x02", nil, 0},
		{"\x81", nil, 0},
		{"\x01a\x81", texts("a"), 2},
		{"\x01a\x80", texts("a"), 2},
		{"\x01a\x80\x00\x01b", texts("a"), 2},
		{"\x80\x01a\x01b", nil, 0},
		{"\x01a\x05b\x01c", texts("a"), 2},
		{"\x01a\xff\xff\xff\xff\xff\xff\xff\xff\xff\x7f\x01b", texts("a"), 2},
		{"\x01a\xbf\xff\xff\xff\xff\xff\xff\xff\x7f\x01b", texts("a"), 2},
		{"\x03\x00\x00\x00", texts("\x00\x00\x00"), 4},
	} {
		holds(t, []byte(c.b), c.want, c.whole)
	}
}

// P12.1: a record of Most bytes is told; one that is longer isn't, nor what is behind it.
func TestMost(t *testing.T) {
	if frame.Most != 1<<20 {
		t.Fatal(frame.Most)
	}
	most := bytes.Repeat([]byte{5}, 1<<20)
	head := frame.Put(nil, []byte("a"))
	b := frame.Put(frame.Put(head, most), []byte("b"))
	holds(t, b, [][]byte{[]byte("a"), most, []byte("b")}, len(b))
	holds(t, b[:len(b)-3], texts("a"), 2)
	b = frame.Put(frame.Put(head, append(most, 5)), []byte("b"))
	if !bytes.Equal(b[:5], []byte{1, 'a', 192, 128, 1}) || len(b) != 2+3+1<<20+1+2 {
		t.Error("Put of a long record:", b[:5], len(b))
	}
	holds(t, b, texts("a"), 2)
}

// P12.2: of records that are cut off anywhere those are told that are there wholly.
func TestCutOff(t *testing.T) {
	random := rand.New(rand.NewSource(12))
	for range 60 {
		var b []byte
		var records [][]byte
		ends := []int{0}
		for range random.Intn(8) {
			rec := make([]byte, random.Intn(random.Intn(2)*200+5))
			random.Read(rec)
			b = frame.Put(b, rec)
			records, ends = append(records, rec), append(ends, len(b))
		}
		wholly := 0
		for n := range len(b) + 1 {
			if wholly+1 < len(ends) && ends[wholly+1] <= n {
				wholly++
			}
			holds(t, b[:n], records[:wholly], ends[wholly])
		}
	}
}

// P1, P12.1: of any bytes what is told, put again, is what Whole counts.
func TestAnyBytes(t *testing.T) {
	random := rand.New(rand.NewSource(1))
	for range 20000 {
		b := make([]byte, random.Intn(40))
		for i := range b {
			b[i] = byte(random.Intn(256) >> random.Intn(8))
		}
		var again []byte
		var records [][]byte
		for rec := range frame.All(b) {
			again = frame.Put(again, rec)
			records = append(records, rec)
		}
		if !bytes.HasPrefix(b, again) {
			t.Fatalf("of %v there is told %v", b, again)
		}
		holds(t, b, records, len(again))
		r := wire.New(b[len(again):])
		if r.Text(1 << 20); r.Why() == 0 {
			t.Fatalf("of %v a record isn't told", b)
		}
	}
}

// Rules 5 and 8: the memory is new; one may leave, and go through again.
func TestMemory(t *testing.T) {
	room := []byte{2, 7, 8, 1, 9, 1, 10}
	out := frame.Put(room[:3], room[1:3])
	if !bytes.Equal(room, []byte{2, 7, 8, 1, 9, 1, 10}) || !bytes.Equal(out, []byte{2, 7, 8, 2, 7, 8}) {
		t.Error("the room behind became", room, "and the answer", out)
	}
	out[0] = 99
	if room[0] != 2 {
		t.Error("what was answered is what was handed in")
	}
	all := frame.All(room[:5])
	for rec := range all {
		rec[0] = 77
		_ = append(rec, 66)
		break
	}
	records := slices.Collect(all)
	records[0][0] = 55
	if last, ok := frame.Last(room[:5]); !ok || !bytes.Equal(last, []byte{9}) {
		t.Error("what lies behind the length was read:", last)
	}
	if again := slices.Collect(all); !same(again, [][]byte{{7, 8}, {9}}) || !bytes.Equal(room, []byte{2, 7, 8, 1, 9, 1, 10}) {
		t.Error("what was told shares memory:", again, room)
	}
	room[1] = 33
	if again := slices.Collect(all); !same(again, [][]byte{{7, 8}, {9}}) {
		t.Error("the bytes were kept:", again)
	}
	last, _ := frame.Last(room[:3])
	last[0] = 44
	if room[1] != 33 {
		t.Error("the last one shares memory")
	}
}
