package fold_test

import (
	"math/big"
	"math/rand"
	"regexp"
	"slices"
	"strings"
	"testing"

	"cenotaph/fold"
)

// texts: all texts of at most so many of these parts.
func texts(most int, parts ...string) []string {
	l, last := []string{""}, []string{""}
	for range most {
		var next []string
		for _, s := range last {
			for _, p := range parts {
				next = append(next, s+p)
			}
		}
		l, last = append(l, next...), next
	}
	return l
}

// P39.1: a to z in place of A to Z, and nothing else but broken bytes.
func TestFold(t *testing.T) {
	for _, c := range []struct{ s, want string }{
		{"", ""}, {"a", "a"}, {"A", "a"}, {"Z", "z"}, {"aBcXyZ", "abcxyz"}, {"@[`{", "@[`{"}, {"N9-_ \n\x00\x7f", "n9-_ \n\x00\x7f"},
		{"\u00c9\u0130\u212a\u03a3\u1e9e", "\u00c9\u0130\u212a\u03a3\u1e9e"}, {"A\u00e9B\U0010ffffC", "a\u00e9b\U0010ffffc"}, {"\uff21", "\uff21"},
		{"\xff", "\ufffd"}, {"\xff\xfeA", "\ufffd\ufffda"}, {"A\xc3", "a\ufffd"}, {"\xc3A", "\ufffda"}, {"\xe2\x82", "\ufffd\ufffd"}, {"\xed\xa0\x80", "\ufffd\ufffd\ufffd"}, {"\xc1\x81", "\ufffd\ufffd"}, {"\ufffd", "\ufffd"}, {"\x80A\ufffd", "\ufffda\ufffd"},
	} {
		if s := fold.Fold(c.s); s != c.want {
			t.Errorf("Fold(%q) is %q", c.s, s)
		}
	}
	for r := range rune(0x3000) {
		want := string(r)
		if strings.ContainsRune("ABCDEFGHIJKLMNOPQRSTUVWXYZ", r) {
			want = string(r + 32)
		}
		if s := fold.Fold(string(r)); s != want {
			t.Errorf("Fold(%q) is %q", r, s)
		}
	}
}

// P39.1: texts of one Fold.
func TestSame(t *testing.T) {
	for _, c := range []struct {
		a, b string
		want bool
	}{
		{"", "", true}, {"", "a", false}, {"a", "A", true}, {"aBc", "AbC", true}, {"ab", "a", false}, {"a1", "A1", true}, {"a1", "a01", false}, {"@", "`", false}, {"[", "{", false}, {"-", "\r", false},
		{"\u00e9", "\u00c9", false}, {"k", "\u212a", false}, {"s", "\u017f", false}, {"\xff", "\xfe", true}, {"\xff", "\ufffd", true}, {"\xff\xff", "\ufffd", false}, {"\xc3\xa9", "\u00e9", true}, {"\xc3", "\u00e9", false},
	} {
		if fold.Same(c.a, c.b) != c.want || fold.Same(c.b, c.a) != c.want {
			t.Errorf("Same(%q, %q) is %v", c.a, c.b, !c.want)
		}
	}
}

// P39.1: rows of digits, and of others.
func TestChunks(t *testing.T) {
	type chunks = []fold.Chunk
	for _, c := range []struct {
		s    string
		want chunks
	}{
		{"", nil}, {"a", chunks{{Text: "a"}}}, {"7", chunks{{Text: "7", Number: true}}}, {"0123456789", chunks{{Text: "0123456789", Number: true}}}, {"a10b", chunks{{Text: "a"}, {Text: "10", Number: true}, {Text: "b"}}},
		{"10Ab-2", chunks{{Text: "10", Number: true}, {Text: "Ab-"}, {Text: "2", Number: true}}}, {"007", chunks{{Text: "007", Number: true}}}, {"1.50", chunks{{Text: "1", Number: true}, {Text: "."}, {Text: "50", Number: true}}}, {"-1", chunks{{Text: "-"}, {Text: "1", Number: true}}},
		{"/:", chunks{{Text: "/:"}}}, {"/0:9/", chunks{{Text: "/"}, {Text: "0", Number: true}, {Text: ":"}, {Text: "9", Number: true}, {Text: "/"}}}, {"\u0661\u0662", chunks{{Text: "\u0661\u0662"}}}, {"\u00b2", chunks{{Text: "\u00b2"}}}, {"\uff11", chunks{{Text: "\uff11"}}},
		{"\xff", chunks{{Text: "\ufffd"}}}, {"1\xff\xfe2", chunks{{Text: "1", Number: true}, {Text: "\ufffd\ufffd"}, {Text: "2", Number: true}}}, {"\xc31", chunks{{Text: "\ufffd"}, {Text: "1", Number: true}}}, {"A\ufffd", chunks{{Text: "A\ufffd"}}}, {"\u00e91\u00e9", chunks{{Text: "\u00e9"}, {Text: "1", Number: true}, {Text: "\u00e9"}}},
	} {
		if l := fold.Chunks(c.s); !slices.Equal(l, c.want) {
			t.Errorf("Chunks(%q) are %v", c.s, l)
		}
	}
}

var rows = regexp.MustCompile(`[0-9]+|[^0-9]+`)

// natural: how two texts stand, by the promise's words, one after the other.
func natural(a, b string) int {
	as, bs := rows.FindAllString(string([]rune(a)), -1), rows.FindAllString(string([]rune(b)), -1)
	for i := range min(len(as), len(bs)) {
		x, numberA := new(big.Int).SetString(as[i], 10)
		y, numberB := new(big.Int).SetString(bs[i], 10)
		n := 0
		switch {
		case numberA && numberB:
			n = x.Cmp(y)
		case numberA:
			n = -1
		case numberB:
			n = 1
		default:
			n = strings.Compare(fold.Fold(as[i]), fold.Fold(bs[i]))
		}
		if n != 0 {
			return n
		}
	}
	if len(as) != len(bs) {
		return map[bool]int{true: -1, false: 1}[len(as) < len(bs)]
	}
	return strings.Compare(a, b)
}

// P39.2: how two texts stand.
func TestNatural(t *testing.T) {
	for _, l := range [][]string{ // each ahead of all behind it
		{"", "n1", "N9", "n10"}, {"0", "1", "2", "10", "100", "a"}, {"01", "1", "02", "2"}, {"0", "00", "001", "01", "1", "0010", "10"}, {"9", "A", "a", "B", "b"}, {"a", "a0", "a1", "a1b", "a1b0", "aa", "ab"},
		{"A1", "a1", "A01b", "a2", "A10"}, {"A01", "A1", "a01", "a1", "A2", "a2"}, {"n01", "n1", "n01a", "n1a"}, {"a-1", "a-1-", "a-2", "a_1", "b"}, {"_", "a", "Z"}, {"@", "[", "_", "A", "a", "{"}, {"x9y", "x9Z", "x10a"},
		{"99999999999999999999", "100000000000000000000", "100000000000000000001"}, {"9223372036854775807", "9223372036854775808", "18446744073709551616"}, {"a00000000000000000000000000001", "a1", "a000000000000000000000000000000000002"},
		{"a\u00c9", "a\u00e9", "b"}, {"z", "\u00e9", "\u0661", "\ufffd", "\xfe", "\xff", "\U0010ffff"}, {"\ufffd\xff", "\xff\ufffd", "\xff\xff"}, {"1\xff", "1\xffa"}, {"A\xff", "a\ufffd", "a\xff", "\ufffd"},
	} {
		for i, a := range l {
			for k, b := range l {
				want := 0
				if i != k {
					want = map[bool]int{true: -1, false: 1}[i < k]
				}
				if n := fold.Natural(a, b); n != want {
					t.Errorf("Natural(%q, %q) is %d", a, b, n)
				}
			}
		}
	}
}

// P39.2: all short texts, and longer ones, against the promise's words.
func TestNaturalAgainstWords(t *testing.T) {
	all := texts(4, "a", "A", "0", "1", "\xff")
	for i, a := range all {
		for _, b := range all[i%7:] {
			if n := fold.Natural(a, b); n != natural(a, b) {
				t.Fatalf("Natural(%q, %q) is %d", a, b, n)
			}
		}
	}
	random := rand.New(rand.NewSource(39))
	long := func() string {
		s := ""
		for range random.Intn(8) {
			s += []string{"a", "B", "b", "0", "00", "1", "20", "999999999999999999999", "\u00e9", "-", "\xff", "\ufffd"}[random.Intn(12)]
		}
		return s
	}
	for range 50000 {
		a, b := long(), long()
		if random.Intn(2) == 0 {
			c := long()
			a, b = c+a, c+b
		}
		if n := fold.Natural(a, b); n != natural(a, b) || (n == 0) != (a == b) {
			t.Fatalf("Natural(%q, %q) is %d", a, b, n)
		}
		var whole strings.Builder
		for i, c := range fold.Chunks(a) {
			whole.WriteString(c.Text)
			if c.Text == "" || c.Number != (strings.Trim(c.Text, "0123456789") == "") || i > 0 && c.Number == fold.Chunks(a)[i-1].Number {
				t.Fatalf("Chunks(%q) are %v", a, fold.Chunks(a))
			}
		}
		if whole.String() != string([]rune(a)) {
			t.Fatalf("Chunks(%q) are %v", a, fold.Chunks(a))
		}
	}
}

// P39.2: texts in order, each once.
func TestSort(t *testing.T) {
	for _, c := range []struct{ l, want []string }{
		{nil, nil}, {[]string{""}, []string{""}}, {[]string{"n10", "N9", "n1"}, []string{"n1", "N9", "n10"}}, {[]string{"b", "a", "b", "a", "a"}, []string{"a", "b"}},
		{[]string{"a", "A", "a", "A"}, []string{"A", "a"}}, {[]string{"1", "01", "1", "001"}, []string{"001", "01", "1"}}, {[]string{"\xff", "\xfe", "\ufffd", "\xff", "", ""}, []string{"", "\ufffd", "\xfe", "\xff"}},
		{[]string{"f100", "F20", "f3", "g", "F", "20", "3"}, []string{"3", "20", "F", "f3", "F20", "f100", "g"}},
	} {
		before := slices.Clone(c.l)
		if l := fold.Sort(c.l...); !slices.Equal(l, c.want) {
			t.Errorf("Sort(%q) is %q", c.l, l)
		}
		if !slices.Equal(c.l, before) {
			t.Errorf("Sort changed %q to %q", before, c.l)
		}
	}
	if l := fold.Sort(); len(l) != 0 {
		t.Errorf("Sort() is %q", l)
	}
}

// P39.2, P2: whatever the order in which texts come, they are told in one; what is told is new.
func TestSortAnyOrder(t *testing.T) {
	all := texts(3, "a", "A", "0", "1", "-")
	want := slices.Clone(all)
	slices.SortFunc(want, natural)
	random := rand.New(rand.NewSource(2))
	for range 20 {
		l := slices.Concat(all, all[:random.Intn(len(all))])
		random.Shuffle(len(l), func(i, k int) { l[i], l[k] = l[k], l[i] })
		sorted := fold.Sort(l...)
		if !slices.Equal(sorted, want) {
			t.Fatalf("Sort(%q) is %q", l, sorted)
		}
		again := fold.Sort(sorted...)
		again[0] = "x"
		if !slices.Equal(sorted, want) {
			t.Fatal("two answers share a list")
		}
	}
}

// P1: long texts end, too.
func TestLong(t *testing.T) {
	a, b := strings.Repeat("a1", 1<<18), strings.Repeat("A01", 1<<18)
	if !fold.Same(a, strings.ToUpper(a)) || len(fold.Chunks(a)) != 1<<19 || fold.Natural(a, b) != 1 || fold.Natural(a, a+"0") != -1 {
		t.Error("long texts")
	}
	zeros := strings.Repeat("0", 1<<20)
	if fold.Natural(zeros, "0") != 1 || fold.Natural(zeros+"1", "2") != -1 || fold.Natural("1"+zeros, "2") != 1 || fold.Natural(strings.Repeat("\xff", 1<<20), "\xff") != 1 {
		t.Error("long rows")
	}
}
