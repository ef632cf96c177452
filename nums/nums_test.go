package nums_test

import (
	"math"
	"math/big"
	"strconv"
	"strings"
	"testing"

	"cenotaph/api"
	"cenotaph/nums"
)

// numbers: those about the bounds, about powers of ten, and far off.
func numbers() []int {
	l := []int{math.MinInt, math.MinInt + 1, math.MinInt64 / 2, math.MaxInt / 2, math.MaxInt/2 + 1, math.MaxInt - 1, math.MaxInt, 12, 120, 409600, 1234567890123}
	for d := -2; d <= 2; d++ {
		l = append(l, d, nums.Most+d, -nums.Most+d, nums.Most/2+d, 2*nums.Most+d)
	}
	for p := 10; p < nums.Most; p *= 10 {
		l = append(l, p-1, p, p+1, -p)
	}
	return l
}

// P2.1: a number's text.
func TestText(t *testing.T) {
	if nums.Most != 1125899906842624 {
		t.Fatal(nums.Most)
	}
	for _, c := range []struct {
		n    int
		want string
	}{
		{0, "0"}, {1, "1"}, {9, "9"}, {10, "10"}, {120, "120"}, {-1, "0"}, {-120, "0"}, {math.MinInt, "0"},
		{nums.Most - 1, "1125899906842623"}, {nums.Most, "1125899906842624"}, {nums.Most + 1, "1125899906842624"}, {math.MaxInt, "1125899906842624"},
	} {
		if s := nums.Text(c.n); s != c.want {
			t.Errorf("Text(%d) is %s", c.n, s)
		}
	}
	for _, n := range numbers() {
		if s := nums.Text(n); s != strconv.Itoa(min(max(n, 0), nums.Most)) {
			t.Errorf("Text(%d) is %s", n, s)
		}
	}
}

// P2.1: the number of a text.
func TestRead(t *testing.T) {
	for _, n := range numbers() {
		if n < 0 || n > nums.Most {
			continue
		}
		if got, why := nums.Read(strconv.Itoa(n)); got != n || why != api.OK {
			t.Errorf("Read of %d is %d, %v", n, got, why)
		}
	}
	for n := range 2000 {
		if got, why := nums.Read(nums.Text(n)); got != n || why != api.OK {
			t.Fatalf("Read of %d is %d, %v", n, got, why)
		}
	}
}

func TestReadRefuses(t *testing.T) {
	for _, s := range []string{
		"", "00", "01", "007", "-0", "-1", "+1", " 1", "1 ", "1 2", "1_0", "0x1", "1e3", "1.0", ".", "a", "1a", "a1", "/", ":", "\x00", "1\n", "\xff", "1\xff", "\u0661", "1\u0661", "\uff11",
		"1125899906842625", "1125899906842630", "1125899906842700", "9999999999999999", "11258999068426240", "01125899906842624", "10000000000000000",
		"9223372036854775807", "9223372036854775808", "18446744073709551616", "18446744073709551617", "184467440737095516160", "-9223372036854775808",
		strings.Repeat("9", 1000), strings.Repeat("0", 100000), strings.Repeat("0", 100000) + "1", "1" + strings.Repeat("0", 100000),
	} {
		if n, why := nums.Read(s); n != 0 || why != api.ErrNum {
			t.Errorf("Read(%.40q) is %d, %v", s, n, why)
		}
	}
}

// P2.1: what Read takes is just what Text writes.
func TestReadEachByte(t *testing.T) {
	for c := range 256 {
		for _, s := range []string{string([]byte{byte(c)}), "1" + string([]byte{byte(c)}), string([]byte{byte(c)}) + "1"} {
			n, why := nums.Read(s)
			want, err := strconv.ParseUint(s, 10, 50)
			if err != nil || strconv.FormatUint(want, 10) != s {
				if n != 0 || why != api.ErrNum {
					t.Errorf("Read(%q) is %d, %v", s, n, why)
				}
			} else if n != int(want) || why != api.OK {
				t.Errorf("Read(%q) is %d, %v", s, n, why)
			}
		}
	}
}

// bounded: a number, or the bound that it is beyond.
func bounded(n *big.Int, least, most int64) *big.Int {
	if n.Cmp(big.NewInt(least)) < 0 {
		return big.NewInt(least)
	}
	if n.Cmp(big.NewInt(most)) > 0 {
		return big.NewInt(most)
	}
	return n
}

// P2.1: sums.
func TestAdd(t *testing.T) {
	for _, c := range []struct{ a, b, want int }{
		{0, 0, 0}, {1, 2, 3}, {5, -3, 2}, {-3, 5, 2}, {3, -5, 0}, {-1, -1, 0}, {-1, 1, 0},
		{nums.Most, 0, nums.Most}, {nums.Most, 1, nums.Most}, {nums.Most - 1, 1, nums.Most}, {nums.Most - 2, 1, nums.Most - 1}, {nums.Most, nums.Most, nums.Most}, {nums.Most, -1, nums.Most - 1}, {nums.Most, -nums.Most, 0},
		{nums.Most + 5, -5, nums.Most - 5}, {math.MaxInt, -5, nums.Most - 5}, {-nums.Most - 5, nums.Most, 0}, {nums.Most + 5, -nums.Most - 9, 0}, {math.MinInt, nums.Most, 0}, {-nums.Most - 5, 7, 0},
		{math.MaxInt, math.MaxInt, nums.Most}, {math.MinInt, math.MinInt, 0}, {math.MaxInt, math.MinInt, 0}, {math.MaxInt, 1, nums.Most}, {math.MinInt, -1, 0}, {math.MinInt, 5, 0},
	} {
		if n := nums.Add(c.a, c.b); n != c.want {
			t.Errorf("Add(%d, %d) is %d", c.a, c.b, n)
		}
	}
}

func TestAddAgainstBigNumbers(t *testing.T) {
	for _, a := range numbers() {
		for _, b := range numbers() {
			x, y := bounded(big.NewInt(int64(a)), -nums.Most, nums.Most), bounded(big.NewInt(int64(b)), -nums.Most, nums.Most)
			want := bounded(new(big.Int).Add(x, y), 0, nums.Most)
			if n := nums.Add(a, b); int64(n) != want.Int64() {
				t.Fatalf("Add(%d, %d) is %d, not %v", a, b, n, want)
			}
		}
	}
}

// P2.2: a stamp's text.
func TestStamp(t *testing.T) {
	for _, c := range []struct {
		s    api.Stamp
		want string
	}{
		{api.Stamp{}, "0.0.0"}, {api.Stamp{Phys: 3, Logic: 0, Who: 12}, "3.0.12"}, {api.Stamp{Phys: 1, Logic: 20, Who: 300}, "1.20.300"},
		{api.Stamp{Phys: nums.Most, Logic: nums.Most - 1, Who: 9}, "1125899906842624.1125899906842623.9"},
		{api.Stamp{Phys: -1, Logic: math.MinInt, Who: 4}, "0.0.4"}, {api.Stamp{Phys: nums.Most + 1, Logic: math.MaxInt, Who: -7}, "1125899906842624.1125899906842624.0"},
	} {
		if s := nums.Stamp(c.s); s != c.want {
			t.Errorf("Stamp(%v) is %s", c.s, s)
		}
	}
}

// P2.2: the stamp of a text.
func TestReadStamp(t *testing.T) {
	few := []int{0, 1, 9, 10, 120, nums.Most - 1, nums.Most}
	for _, phys := range few {
		for _, logic := range few {
			for _, who := range few {
				want := api.Stamp{Phys: phys, Logic: logic, Who: who}
				if got, why := nums.ReadStamp(nums.Stamp(want)); got != want || why != api.OK {
					t.Fatalf("ReadStamp of %v is %v, %v", want, got, why)
				}
			}
		}
	}
}

func TestReadStampRefuses(t *testing.T) {
	for _, s := range []string{
		"", ".", "..", "...", "1", "1.", "1.2", "1.2.", ".1.2", "1..2", "1.2.3.", ".1.2.3", "1.2.3.4", "1.2..3", "1,2,3", "1 2 3", " 1.2.3", "1.2.3 ", "1. 2.3", "1.2.3\n",
		"01.2.3", "1.02.3", "1.2.03", "00.0.0", "-1.2.3", "1.-2.3", "1.2.-3", "+1.2.3", "a.2.3", "1.a.3", "1.2.a", "\xff.2.3", "1.2.\xff",
		"1125899906842625.2.3", "1.1125899906842625.3", "1.2.1125899906842625", "18446744073709551617.0.0", strings.Repeat("1.", 1000), strings.Repeat(".", 100000),
	} {
		if got, why := nums.ReadStamp(s); got != (api.Stamp{}) || why != api.ErrNum {
			t.Errorf("ReadStamp(%.40q) is %v, %v", s, got, why)
		}
	}
}
