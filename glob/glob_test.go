package glob_test

import (
	"fmt"
	"math/rand"
	"regexp"
	"strings"
	"testing"
	"unicode/utf8"

	"cenotaph/api"
	"cenotaph/glob"
)

// texts: all texts of at most so many of these parts.
func texts(most int, parts ...string) []string {
	l, last := []string{""}, []string{""}
	for range most {
		var next []string
		for _, s := range last {
			for _, p := range parts {
				next = append(next, s+p)
			}
		}
		l, last = append(l, next...), next
	}
	return l
}

// pattern: that of a text that is one.
func pattern(t *testing.T, s string) glob.Pattern {
	t.Helper()
	p, why := glob.New(s)
	if why != api.OK {
		t.Fatalf("New(%q): %v", s, why)
	}
	return p
}

// P38.1: what matches, and what doesn't.
func TestMatch(t *testing.T) {
	for _, c := range []struct {
		pattern    string
		match, not []string
	}{
		{"", []string{""}, []string{"a", " ", "\xff"}},
		{"ab", []string{"ab"}, []string{"", "a", "abc", "xab", "aB", "b", "a b"}},
		{"*", []string{"", "a", "abc", "\xff\n\u00e9"}, nil},
		{"**", []string{"", "a", "abc"}, nil},
		{"?", []string{"a", "\u00e9", "\U0010ffff", "\xff", "?", "\n"}, []string{"", "ab", "\xff\xff", "\xc3\xc3\xa9"}},
		{"??", []string{"ab", "\xe2\x82"}, []string{"a", "abc", "\u20ac"}},
		{"*?", []string{"a", "ab"}, []string{""}},
		{"?*?", []string{"ab", "abc"}, []string{"", "a"}},
		{"a*[b-d]", []string{"ab", "axc", "abcd", "add"}, []string{"ax", "a", "b", "xab", "abe", ""}},
		{"a*b*c", []string{"abc", "aabbcc", "axbxc", "abcbc"}, []string{"ac", "acb", "abcx", "xabc"}},
		{"*ab", []string{"ab", "aab", "abab", "xab"}, []string{"a", "aba", "b"}},
		{"[abc]", []string{"a", "b", "c"}, []string{"", "d", "ab", "[abc]"}},
		{"[a-c]x", []string{"ax", "bx", "cx"}, []string{"dx", "x", "-x", "`x"}},
		{"[a-ce-g]", []string{"a", "c", "e", "g"}, []string{"d", "h", "-"}},
		{"[a-cx]", []string{"b", "x"}, []string{"d", "-"}},
		{"[a-a]", []string{"a"}, []string{"b", "-"}},
		{"[a-]", []string{"a", "-"}, []string{"b", ","}},
		{"[-a]", []string{"a", "-"}, []string{"b", "."}},
		{"[-]", []string{"-"}, []string{"a"}},
		{"[--]", []string{"-"}, []string{"a"}},
		{"[---]", []string{"-"}, []string{"a"}},
		{"[+--]", []string{"+", ",", "-"}, []string{"*", "."}},
		{"[--/]", []string{"-", ".", "/"}, []string{",", "0"}},
		{"[a-c-e]", []string{"a", "b", "c", "-", "e"}, []string{"d"}},
		{"[a-c-]", []string{"b", "-"}, []string{"d"}},
		{"[^a]", []string{"b", "^", "\xff", "\u00e9", "]"}, []string{"a", "", "bb"}},
		{"[^a-cx]", []string{"d", "-", "^"}, []string{"a", "b", "c", "x", ""}},
		{"[^^]", []string{"a"}, []string{"^", ""}},
		{"[^-]", []string{"a", "^"}, []string{"-"}},
		{"[^-a]", []string{"b", "_"}, []string{"-", "a"}},
		{"[a^]", []string{"a", "^"}, []string{"b"}},
		{"[a-^^]", nil, nil},
		{"[[]", []string{"["}, []string{"]", "[]"}},
		{"[*?]", []string{"*", "?"}, []string{"a", ""}},
		{"[*]*", []string{"*", "*a"}, []string{"a", ""}},
		{"]", []string{"]"}, []string{"", "["}},
		{"[a]]", []string{"a]"}, []string{"a", "]"}},
		{"a]b-^", []string{"a]b-^"}, []string{"a]b-"}},
		{"\\*", []string{"\\", "\\a"}, []string{"*", "a*"}},
		{"[\\]", []string{"\\"}, []string{"]"}},
		{"a b\n", []string{"a b\n"}, []string{"ab"}},
		{"\u00e9?[\u00e0-\u00ff]", []string{"\u00e9x\u00e0", "\u00e9\u20ac\u00e9", "\u00e9\xff\u00ff"}, []string{"\u00e9\u00e0", "exa", "\u00e9x\u0100"}},
		{"[a-\U0010ffff]", []string{"a", "\u00e9", "\U0010ffff", "\xff"}, []string{"A", ""}},
		{"\ufffd", []string{"\ufffd", "\xff", "\x80", "\xc3"}, []string{"a", "\xff\xff", "\xef\xbf"}},
		{"[\ufffd]x", []string{"\xffx", "\ufffdx"}, []string{"x", "\xff"}},
		{"[^\ufffd]", []string{"a"}, []string{"\xff", "\ufffd"}},
	} {
		if c.match == nil && c.not == nil {
			if _, why := glob.New(c.pattern); why != api.ErrText {
				t.Errorf("New(%q): %v", c.pattern, why)
			}
			continue
		}
		p := pattern(t, c.pattern)
		if p.Text() != c.pattern {
			t.Errorf("the Text of %q is %q", c.pattern, p.Text())
		}
		for _, s := range c.match {
			if !p.Match(s) {
				t.Errorf("%q doesn't match %q", c.pattern, s)
			}
		}
		for _, s := range c.not {
			if p.Match(s) {
				t.Errorf("%q matches %q", c.pattern, s)
			}
		}
	}
}

// P38.1: texts that are no patterns.
func TestNewRefuses(t *testing.T) {
	for _, s := range []string{
		"[", "a[", "[a", "a[b-d", "[^", "[^a", "[a][", "]a[", "[[", "[]", "[]a", "[^]", "[^]a", "a[]b", "*[^]*", "[a-c", "[]a]x[",
		"[b-a]", "[z-a]", "[^b-a]", "[ab-a]", "[a-bd-c]", "[a--]", "[a-c-a-]x[d-c]", "[\u00e9-e]", "[\U0010ffff-a]", "[a-]]-[", "[b-a", "[b-a]]",
		"\xff", "a\xff", "\xffa", "[\xff]", "[a\xc3]", "\x80", "\xed\xa0\x80", "\xc0\x80", "a\xef\xbf", "\ufffd\xff", "*\xff*",
		strings.Repeat("a", 101), strings.Repeat("*", 101), strings.Repeat("a", 99) + "\u00e9", strings.Repeat("\u20ac", 34), "[" + strings.Repeat("a", 99) + "]", strings.Repeat("x", 100000),
	} {
		p, why := glob.New(s)
		if why != api.ErrText || p.Text() != "" || !p.Match("") || p.Match("a") || p.Match(s) {
			t.Errorf("New(%.40q) is %q, %v", s, p.Text(), why)
		}
	}
	for _, s := range []string{strings.Repeat("a", 100), strings.Repeat("*", 100), strings.Repeat("a", 98) + "\u00e9", strings.Repeat("\u20ac", 33) + "a", "[" + strings.Repeat("a", 98) + "]", "\ufffd"} {
		if p := pattern(t, s); p.Text() != s {
			t.Errorf("the Text of %q is %q", s, p.Text())
		}
	}
}

// P38.1, P38.2: the zero pattern.
func TestZero(t *testing.T) {
	var p glob.Pattern
	s, ok := p.Plain()
	if !p.Match("") || p.Match("a") || p.Match("\xff") || p.Text() != "" || p.Ahead() != "" || s != "" || !ok {
		t.Error("the zero pattern")
	}
}

// P38.2: what alone matches, and what is told ahead.
func TestPlainAndAhead(t *testing.T) {
	for _, c := range []struct {
		pattern, ahead string
		plain          bool
	}{
		{"", "", true}, {"a", "a", true}, {"abc", "abc", true}, {"[a]", "a", true}, {"[a-a]", "a", true}, {"x[a]y[b-b]z", "xaybz", true}, {"[[]", "[", true}, {"[*][?]", "*?", true}, {"[-]", "-", true}, {"[---]", "-", true}, {"]-^", "]-^", true},
		{"\u00e9[\u20ac]", "\u00e9\u20ac", true}, {"\ufffd", "\ufffd", true}, {"a\n", "a\n", true}, {strings.Repeat("a", 100), strings.Repeat("a", 100), true},
		{"*", "", false}, {"?", "", false}, {"a*", "a", false}, {"a*b", "a", false}, {"ab?c", "ab", false}, {"*ab", "", false}, {"ab**", "ab", false},
		{"[ab]", "", false}, {"[aa]", "", false}, {"[--]", "", false}, {"[a-b]", "", false}, {"[a-aa]", "", false}, {"[a-]", "", false}, {"x[a]y[b-c]z", "xay", false}, {"ab[cd]e", "ab", false},
		{"[^a]", "", false}, {"x[^a-a]", "x", false}, {"x[^\x00-a]", "x", false}, {"[a^]", "", false},
	} {
		p := pattern(t, c.pattern)
		want := ""
		if c.plain {
			want = c.ahead
		}
		if s, ok := p.Plain(); s != want || ok != c.plain {
			t.Errorf("Plain of %q is %q, %v", c.pattern, s, ok)
		}
		if s := p.Ahead(); s != c.ahead {
			t.Errorf("Ahead of %q is %q", c.pattern, s)
		}
	}
}

// expression: a pattern as a regular expression, and of the runes that stand for themselves those ahead of all others; nil, if it is no pattern.
func expression(s string) (*regexp.Regexp, string) {
	if len(s) > 100 || !utf8.ValidString(s) {
		return nil, ""
	}
	whole, ahead, open := `(?s)\A`, "", true
	rest := s
	for rest != "" {
		m := parts.FindStringSubmatch(rest)
		if m == nil {
			return nil, ""
		}
		rest = rest[len(m[0]):]
		itself := "" // what stands for itself
		switch {
		case m[0] == "*":
			whole += ".*"
		case m[0] == "?":
			whole += "."
		case m[0][0] != '[':
			whole += regexp.QuoteMeta(m[0])
			itself = m[0]
		default:
			all := spans.FindAllStringSubmatch(m[2], -1)
			whole += "[" + m[1]
			for _, x := range all {
				first, last := x[1]+x[3], x[2]+x[3]
				if first > last {
					return nil, ""
				}
				whole += fmt.Sprintf(`\x{%x}-\x{%x}`, []rune(first)[0], []rune(last)[0])
				if m[1] == "" && len(all) == 1 && first == last {
					itself = first
				}
			}
			if all == nil {
				return nil, ""
			}
			whole += "]"
		}
		open = open && itself != ""
		if open {
			ahead += itself
		}
	}
	return regexp.MustCompile(whole + `\z`), ahead
}

var (
	parts = regexp.MustCompile(`(?s)\A(?:\[(\^?)([^\]]*)\]|[^\[])`)
	spans = regexp.MustCompile(`(?s)(.)-(.)|(.)`)
)

// against holds all that a pattern's text tells against its expression.
func against(t *testing.T, s string, some []string) {
	t.Helper()
	x, ahead := expression(s)
	p, why := glob.New(s)
	if (x == nil) != (why == api.ErrText) || x != nil && (why != api.OK || p.Text() != s) {
		t.Fatalf("New(%q): %v", s, why)
	}
	if x == nil {
		return
	}
	if p.Ahead() != ahead {
		t.Fatalf("Ahead of %q is %q, not %q", s, p.Ahead(), ahead)
	}
	one, ok := p.Plain()
	if ok && (one != ahead || !p.Match(one)) || !ok && one != "" {
		t.Fatalf("Plain of %q is %q, %v", s, one, ok)
	}
	for _, c := range some {
		if p.Match(c) != x.MatchString(c) {
			t.Fatalf("Match of %q with %q is %v", s, c, p.Match(c))
		}
		if p.Match(c) && !strings.HasPrefix(string([]rune(c)), ahead) || ok && p.Match(c) != (c == one) {
			t.Fatalf("%q matches %q: Ahead is %q, Plain %q, %v", s, c, ahead, one, ok)
		}
	}
}

func TestAgainstExpressions(t *testing.T) {
	some := texts(3, "a", "b", "c", "-", "^", "]")
	for _, s := range texts(4, "a", "b", "*", "?", "[", "]", "^", "-") {
		against(t, s, some)
	}
	some = texts(6, "a", "b", "\xc3\xa9")
	for _, s := range texts(5, "a", "*", "?", "[^a]", "[a-b]") {
		against(t, s, some)
	}
	for _, s := range texts(3, "a", "-", "c", "e", "^", "\u00e9") {
		against(t, "["+s+"]", texts(1, "a", "b", "c", "d", "e", "-", "^", "x", "\u00e9", "\xff"))
	}
	random := rand.New(rand.NewSource(38))
	for range 20000 {
		var s, c strings.Builder
		for range random.Intn(12) {
			s.WriteString([]string{"a", "b", "\u00e9", "*", "?", "[", "]", "^", "-", "[a-c]", "[^b]"}[random.Intn(11)])
		}
		for range random.Intn(12) {
			c.WriteString([]string{"a", "b", "c", "\u00e9", "\xff", "-"}[random.Intn(6)])
		}
		against(t, s.String(), []string{c.String()})
	}
}

// P2: what a pattern tells doesn't hang on what it was asked ahead, nor on other patterns.
func TestPatternsStayAsTheyAre(t *testing.T) {
	p, q := pattern(t, "a*[b-d]"), pattern(t, "x?")
	for range 3 {
		if !p.Match("axc") || p.Match("ax") || !q.Match("xa") || q.Match("axc") || p.Ahead() != "a" || q.Ahead() != "x" {
			t.Fatal("a pattern is another one")
		}
	}
}

// P1: long texts end, too.
func TestLong(t *testing.T) {
	s := strings.Repeat("a", 1<<18)
	for _, c := range []struct {
		pattern string
		want    bool
	}{
		{strings.Repeat("*a", 50), true}, {strings.Repeat("*", 100), true}, {strings.Repeat("a*", 49) + "b", false}, {strings.Repeat("?", 100), false}, {strings.Repeat("*?", 50), true}, {"*b*", false}, {"[^b]*", true},
	} {
		if pattern(t, c.pattern).Match(s) != c.want {
			t.Errorf("%q with a long text is %v", c.pattern, !c.want)
		}
	}
}
