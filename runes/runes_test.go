package runes_test

import (
	"math"
	"slices"
	"strings"
	"testing"

	"cenotaph/runes"
)

// texts: all texts of at most so many of these parts.
func texts(most int, parts ...string) []string {
	l, last := []string{""}, []string{""}
	for range most {
		var next []string
		for _, s := range last {
			for _, p := range parts {
				next = append(next, s+p)
			}
		}
		l, last = append(l, next...), next
	}
	return l
}

// P1.1: what may be a key.
func TestKeyTakes(t *testing.T) {
	for _, s := range []string{
		"a", "z", "A", "Z", "k", "Key-1_", "a0", "a9", "a-", "a_", "a--", "abc_DEF-0123456789",
		"a\u00e9-1", "\u00e9", "\u0080", "\u0800", "\U00010000", "\U0010ffff",
		"\ufffd", "a\ufffdb", // the rune itself is one like others
		strings.Repeat("a", 24), strings.Repeat("\u00e9", 12), strings.Repeat("\u20ac", 8), strings.Repeat("a", 21) + "\u20ac",
	} {
		if !runes.Key(s) {
			t.Errorf("Key(%q) is false", s)
		}
	}
}

func TestKeyRefuses(t *testing.T) {
	for _, s := range []string{
		"", " ", "-a", "_a", "0", "9a", "a b", " a", "a ", "a.b", "a\"", "a\x00", "a\n", "\x7f", "a\x7f",
		"\xff", "a\xff", "\xffa", "a\xffb", "a\xc3", "\xa9", "\x80", "a\xed\xa0\x80", "a\xc0\x80", "a\xf4\x90\x80\x80", "\ufffd\xff", "a\xef\xbf",
		strings.Repeat("a", 25), strings.Repeat("\u00e9", 13), strings.Repeat("a", 22) + "\u20ac", strings.Repeat("a", 1000),
	} {
		if runes.Key(s) {
			t.Errorf("Key(%q) is true", s)
		}
	}
}

func TestKeyByEachByte(t *testing.T) {
	const letters = "abcdefghijklmnopqrstuvwxyzABCDEFGHIJKLMNOPQRSTUVWXYZ"
	for c := range 256 {
		b := string([]byte{byte(c)})
		if got, want := runes.Key(b), strings.Contains(letters, b); got != want {
			t.Errorf("Key(%q) is %v", b, got)
		}
		if got, want := runes.Key("k"+b), strings.Contains(letters+"0123456789-_", b); got != want {
			t.Errorf("Key(%q) is %v", "k"+b, got)
		}
	}
}

// P1.1: what may be a value.
func TestVal(t *testing.T) {
	for _, s := range []string{
		"", "v", " ", "a b\n\x00\x7f\"\\", "\u00e9\ufffd\U0010ffff",
		strings.Repeat("a", 64), strings.Repeat("\u00e9", 32), strings.Repeat("\U00010000", 16), strings.Repeat("a", 61) + "\ufffd",
	} {
		if !runes.Val(s) {
			t.Errorf("Val(%q) is false", s)
		}
	}
	for _, s := range []string{
		"\xff", "a\xff", "\xffa", "\x80", "\xc3", "\xc3(", "\xed\xa0\x80", "\xc0\x80", "\xf4\x90\x80\x80", "\ufffd\xff", "\xef\xbf",
		strings.Repeat("a", 65), strings.Repeat("\u00e9", 33), strings.Repeat("a", 62) + "\u20ac", strings.Repeat("a", 63) + "\xff",
	} {
		if runes.Val(s) {
			t.Errorf("Val(%q) is true", s)
		}
	}
}

// P1.1: how many runes, and the first so many.
func TestCountAndCut(t *testing.T) {
	for _, c := range []struct {
		s string
		n int
	}{
		{"", 0}, {"a", 1}, {"abc", 3}, {"\u00e9\u20ac\U00010000", 3}, {"\xff", 1}, {"\xff\xfe", 2}, {"a\xc3", 2}, {"\xc3\xc3\xa9", 2}, {"\xed\xa0\x80", 3}, {"\ufffd\xff", 2}, {strings.Repeat("\u20ac", 1000), 1000},
	} {
		if n := runes.Count(c.s); n != c.n {
			t.Errorf("Count(%q) is %d", c.s, n)
		}
	}
	for _, c := range []struct {
		s    string
		n    int
		want string
	}{
		{"abc", 0, ""}, {"abc", -1, ""}, {"abc", math.MinInt, ""}, {"abc", 1, "a"}, {"abc", 2, "ab"}, {"abc", 3, "abc"}, {"abc", 4, "abc"}, {"abc", math.MaxInt, "abc"},
		{"", 0, ""}, {"", 1, ""}, {"", -1, ""}, {"\u00e9\u20acx", 1, "\u00e9"}, {"\u00e9\u20acx", 2, "\u00e9\u20ac"},
		{"\xff\xc3\xa9\xfe", 1, "\xff"}, {"\xff\xc3\xa9\xfe", 2, "\xff\xc3\xa9"}, {"\xff\xc3\xa9\xfe", 3, "\xff\xc3\xa9\xfe"}, {"\xed\xa0\x80", 2, "\xed\xa0"},
	} {
		if s := runes.Cut(c.s, c.n); s != c.want {
			t.Errorf("Cut(%q, %d) is %q", c.s, c.n, s)
		}
	}
}

func TestCutAgainstRunes(t *testing.T) {
	for _, s := range texts(4, "a", "\u00e9", "\xff", "\xc3", "\xa9", "\ufffd") {
		all := []rune(s)
		if runes.Count(s) != len(all) {
			t.Fatalf("Count(%q) is %d", s, runes.Count(s))
		}
		for n := -1; n <= len(all)+1; n++ {
			cut := runes.Cut(s, n)
			if !strings.HasPrefix(s, cut) || !slices.Equal([]rune(cut), all[:min(max(n, 0), len(all))]) {
				t.Fatalf("Cut(%q, %d) is %q", s, n, cut)
			}
		}
	}
}

// P1.3: words.
func TestWords(t *testing.T) {
	for _, c := range []struct {
		s    string
		want []string
	}{
		{"", nil}, {" ", nil}, {"    ", nil}, {"a", []string{"a"}}, {" a  b ", []string{"a", "b"}}, {"a\tb\nc\x00", []string{"a\tb\nc\x00"}}, {"\t \x00a \n\r", []string{"\t", "\x00a", "\n\r"}}, {"a\u00a0b", []string{"a\u00a0b"}},
		{`a "b c"d`, []string{"a", `"b c"`, "d"}},
		{`a"b c"d`, []string{`a"b`, `c"d`}},
		{`"a""b"`, []string{`"a"`, `"b"`}}, {`"a" "b"`, []string{`"a"`, `"b"`}}, {`"a"b "c"`, []string{`"a"`, "b", `"c"`}}, {`""`, []string{`""`}}, {`"" ""`, []string{`""`, `""`}}, {`"""`, []string{`""`, `"`}},
		{`"`, []string{`"`}}, {`" `, []string{`" `}}, {`"a b`, []string{`"a b`}}, {`x "a b `, []string{"x", `"a b `}}, {`"a\`, []string{`"a\`}},
		{`"a\"b" c`, []string{`"a\"b"`, "c"}}, {`"a\\" b`, []string{`"a\\"`, "b"}}, {`"a\\\" b" c`, []string{`"a\\\" b"`, "c"}}, {`"a\\\\" b`, []string{`"a\\\\"`, "b"}},
		{`"\a" b`, []string{`"\a"`, "b"}}, {`"\ " b`, []string{`"\ "`, "b"}}, {`"a\" b`, []string{`"a\" b`}},
		{`\"a b"`, []string{`\"a`, `b"`}}, {`\ "a b"`, []string{`\`, `"a b"`}}, {`"a\""b\`, []string{`"a\""`, `b\`}},
		{"\xff \"\xff \xfe\"\u00e9", []string{"\xff", "\"\xff \xfe\"", "\u00e9"}},
	} {
		if l := runes.Words(c.s); !slices.Equal(l, c.want) {
			t.Errorf("Words(%q) is %q", c.s, l)
		}
	}
}

// wordsByEnds: words by the end of each one alone.
func wordsByEnds(s string) []string {
	var l []string
	for s = strings.TrimLeft(s, " "); s != ""; s = strings.TrimLeft(s, " ") {
		n := strings.IndexByte(s+" ", ' ')
		if s[0] == '"' {
			n = len(s)
			for i := len(s) - 1; i > 0; i-- {
				ahead := len(s[1:i]) - len(strings.TrimRight(s[1:i], `\`))
				if s[i] == '"' && ahead%2 == 0 {
					n = i + 1
				}
			}
		}
		l, s = append(l, s[:n]), s[n:]
	}
	return l
}

func TestWordsAgainstEnds(t *testing.T) {
	for _, s := range texts(7, "a", " ", `"`, `\`) {
		if got, want := runes.Words(s), wordsByEnds(s); !slices.Equal(got, want) {
			t.Fatalf("Words(%q) is %q, not %q", s, got, want)
		}
	}
}

// P1.3: what Quote writes is one word.
func TestWordsKeepQuotes(t *testing.T) {
	for _, s := range texts(5, "a", " ", `"`, `\`, "\n") {
		q := runes.Quote(s)
		if l := runes.Words("x " + q + q + "y"); !slices.Equal(l, []string{"x", q, q, "y"}) {
			t.Fatalf("Words of %q twice is %q", q, l)
		}
	}
}

// P1.3: lines.
func TestLines(t *testing.T) {
	for _, c := range []struct {
		s    string
		want []string
	}{
		{"", nil}, {"a", []string{"a"}}, {"a\n", []string{"a"}}, {"a\nb", []string{"a", "b"}}, {"a\nb\n", []string{"a", "b"}},
		{"\n", []string{""}}, {"\n\n", []string{"", ""}}, {"a\n\nb", []string{"a", "", "b"}}, {"\na", []string{"", "a"}}, {"a\n\n", []string{"a", ""}}, {"a\n ", []string{"a", " "}},
		{"a\r\nb\r", []string{"a\r", "b\r"}}, {"a\u2028b\x0bc", []string{"a\u2028b\x0bc"}}, {"\"a\nb\"", []string{"\"a", "b\""}}, {"\xff\n\xc3\u00e9", []string{"\xff", "\xc3\u00e9"}},
	} {
		if l := runes.Lines(c.s); !slices.Equal(l, c.want) {
			t.Errorf("Lines(%q) is %q", c.s, l)
		}
	}
	for _, s := range texts(6, "a", "\n", "\u00e9") {
		l := runes.Lines(s)
		back := strings.Join(l, "\n")
		if len(l) > 0 && strings.HasSuffix(s, "\n") {
			back += "\n"
		}
		if back != s {
			t.Fatalf("Lines(%q) is %q", s, l)
		}
	}
}

// Rule 5: what is answered belongs to the caller.
func TestListsAreNew(t *testing.T) {
	first := runes.Words("a b")
	first[0] = "x"
	_ = append(first[:1], "y")
	if l := runes.Words("a b"); !slices.Equal(l, []string{"a", "b"}) {
		t.Error(l)
	}
	first = runes.Lines("a\nb")
	first[0] = "x"
	if l := runes.Lines("a\nb"); !slices.Equal(l, []string{"a", "b"}) {
		t.Error(l)
	}
}

// P1: long texts end, too, and none panics.
func TestLong(t *testing.T) {
	const n = 1 << 18
	for _, p := range []string{"a", " ", `"`, `\`, "\n", "\xff", "\u20ac", `" \`} {
		s := strings.Repeat(p, n)
		if runes.Key(s) || runes.Val(s) || runes.Count(s) != len([]rune(p))*n || runes.Cut(s, n) != string(s[:len(runes.Cut(s, n))]) {
			t.Errorf("of many %q", p)
		}
		if u, why := runes.Unquote(runes.Quote(s)); u != s || why != 0 {
			t.Errorf("Unquote of the Quote of many %q: %v", p, why)
		}
		runes.Unquote(s)
		if !slices.Equal(runes.Words(s), runes.Words(s)) || !slices.Equal(runes.Lines(s), runes.Lines(s)) {
			t.Errorf("twice many %q", p)
		}
	}
}
