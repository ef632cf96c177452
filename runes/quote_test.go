package runes_test

import (
	"fmt"
	"testing"
	"unicode/utf8"

	"cenotaph/api"
	"cenotaph/runes"
)

// P1.2: a text in quotes.
func TestQuote(t *testing.T) {
	for _, c := range []struct{ s, want string }{
		{"", `""`}, {"a", `"a"`}, {"a b", `"a b"`}, {`"`, `"\""`}, {`\`, `"\\"`}, {`\"`, `"\\\""`}, {`\x41`, `"\\x41"`}, {"'`", "\"'`\""},
		{"\x00", `"\x00"`}, {"\n", `"\x0a"`}, {"\t\r", `"\x09\x0d"`}, {"\x1f", `"\x1f"`}, {" ", `" "`}, {"~", `"~"`}, {"\x7f", `"\x7f"`},
		{"\u0080", "\"\u0080\""}, {"\u00e9\u20ac\U0010ffff", "\"\u00e9\u20ac\U0010ffff\""}, {"\u2028\u00ad", "\"\u2028\u00ad\""},
		{"\ufffd", "\"\ufffd\""}, {"\xff", `"\xff"`}, {"\x80", `"\x80"`}, {"\xef\xbf", `"\xef\xbf"`}, {"\ufffd\xef\xbf\ufffd", "\"\ufffd" + `\xef\xbf` + "\ufffd\""},
		{"\xed\xa0\x80", `"\xed\xa0\x80"`}, {"\xc0\x80", `"\xc0\x80"`}, {"\xc3\u00e9", `"\xc3` + "\u00e9\""}, {"x\xffy", `"x\xffy"`}, {"a\"\n", `"a\"\x0a"`},
	} {
		if q := runes.Quote(c.s); q != c.want {
			t.Errorf("Quote(%q) is %s", c.s, q)
		}
		if s, why := runes.Unquote(c.want); s != c.s || why != api.OK {
			t.Errorf("Unquote(%s) is %q, %v", c.want, s, why)
		}
	}
}

func TestQuoteEachByte(t *testing.T) {
	for c := range 256 {
		s := string([]byte{byte(c)})
		want := s
		if c == '"' || c == '\\' {
			want = `\` + s
		} else if c < 32 || c == 127 || !utf8.ValidString(s) {
			want = fmt.Sprintf(`\x%02x`, c)
		}
		if q := runes.Quote("a" + s + "b"); q != `"a`+want+`b"` {
			t.Errorf("Quote of the byte %d is %s", c, q)
		}
	}
}

// P1.2: texts that are no Quote.
func TestUnquoteRefuses(t *testing.T) {
	for _, s := range []string{
		"", `"`, "a", "ab", `"a`, `a"`, `'a'`, ` "a"`, `"a" `, `"a"b"`, `"""`, `"a""b"`, `\"a"`,
		`"\"`, `"a\"`, `"\\\"`, `"\a"`, `"\n"`, `"\X0a"`, `"\u0041"`, `"\0"`, `"\x"`, `"\x0"`, `"\x0`, `"\x0g"`, `"\xg0"`, `"\x 0"`, `"\x0A"`, `"\xFF"`,
		`"\x41"`, `"\x20"`, `"\x22"`, `"\x5c"`, `"\x7e"`, `"\xc3\xa9"`, `"\xef\xbf\xbd"`, `"\xc3` + "\xa9\"",
		"\"\n\"", "\"\x00\"", "\"\x7f\"", "\"\xff\"", "\"\xc3\"", "\"\\\xff\"", "\"\\x\xff0\"", "\"\\x0\xff\"", "\"\\x\ufffd0\"",
	} {
		if u, why := runes.Unquote(s); u != "" || why != api.ErrText {
			t.Errorf("Unquote(%s) is %q, %v", s, u, why)
		}
	}
}

func TestUnquoteOfQuote(t *testing.T) {
	for _, s := range texts(5, "a", "x0a", `"`, `\`, "\n", "\xc3", "\xa9", "\u00e9") {
		if u, why := runes.Unquote(runes.Quote(s)); u != s || why != api.OK {
			t.Fatalf("Unquote(%s) is %q, %v", runes.Quote(s), u, why)
		}
	}
}

func TestQuoteOfUnquote(t *testing.T) {
	for _, in := range texts(5, "x", "0", "a", "f", "F", `"`, `\`, "\xff", "\u00e9") {
		for _, s := range []string{in, `"` + in, `"` + in + `"`} {
			u, why := runes.Unquote(s)
			if why == api.OK && runes.Quote(u) != s || why != api.OK && (why != api.ErrText || u != "") {
				t.Fatalf("Unquote(%q) is %q, %v", s, u, why)
			}
		}
	}
}
