// Package runes is layer 1: keys, values and words as texts, rune by rune (see shared/doc/01-runes.md).
package runes

import (
	"strings"
	"unicode/utf8"

	"cenotaph/api"
)

// Key: may a text be a key: a letter (a to z, A to Z, or a rune from 128 on), then letters, digits, - and _, of at most MaxKey bytes?
func Key(s string) bool {
	if s == "" || len(s) > api.MaxKey {
		return false
	}
	for i, r := range s {
		if broken(s, i, r) || !letter(r) && (i == 0 || !behind(r)) {
			return false
		}
	}
	return true
}

// Val: may a text be a value: of runes alone, of at most MaxVal bytes?
func Val(s string) bool {
	if len(s) > api.MaxVal {
		return false
	}
	for i, r := range s {
		if broken(s, i, r) {
			return false
		}
	}
	return true
}

// Count: how many runes a text has (a byte that begins none is one).
func Count(s string) int {
	n := 0
	for range s {
		n++
	}
	return n
}

// Cut: the first so many runes of a text; all, if it has no more.
func Cut(s string, n int) string {
	for i := range s {
		if n < 1 {
			return s[:i]
		}
		n--
	}
	return s
}

// Lines: the parts between bytes 10; the last one alone, if it isn't empty.
func Lines(s string) []string {
	var l []string
	from := 0
	for i, r := range s {
		if r == '\n' {
			l = append(l, s[from:i])
			from = i + 1
		}
	}
	if from < len(s) {
		l = append(l, s[from:])
	}
	return l
}

// Words: the words of a line: what stands between blanks; what begins with a quote ends behind the next one that has no backslash ahead that counts.
func Words(s string) []string {
	var l []string
	const none = -1
	from := none // where the word that goes on began
	quoted, escaped := false, false
	for i, r := range s {
		switch {
		case from == none && r == ' ':
		case from == none:
			from, quoted, escaped = i, r == '"', false
		case quoted && r == '"' && !escaped:
			l = append(l, s[from:i+1])
			from = none
		case quoted:
			escaped = r == '\\' && !escaped // a backslash that is escaped escapes nothing
		case r == ' ':
			l = append(l, s[from:i])
			from = none
		}
	}
	if from != none {
		l = append(l, s[from:])
	}
	return l
}

// broken: is the rune that a range gave at a place a byte that begins none? A range gives U+FFFD of it, which a text may have itself, too.
func broken(s string, i int, r rune) bool {
	return r == utf8.RuneError && !strings.HasPrefix(s[i:], string(utf8.RuneError))
}

func letter(r rune) bool {
	return 'a' <= r && r <= 'z' || 'A' <= r && r <= 'Z' || r >= 128
}

// behind: may a rune that is no letter stand behind a key's first one?
func behind(r rune) bool {
	return '0' <= r && r <= '9' || r == '-' || r == '_'
}
