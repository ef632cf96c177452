package runes

import (
	"strings"
	"unicode/utf8"

	"cenotaph/api"
)

const figures = "0123456789abcdef"

// Quote: a text in quotes: a quote and a backslash have a backslash ahead, bytes below 32, 127, and those that begin no rune are \x and two figures of the base 16.
func Quote(s string) string {
	b := make([]byte, 0, len(s)+2)
	b = append(b, '"')
	for i, r := range s {
		switch {
		case r == '"' || r == '\\':
			b = append(b, '\\', byte(r))
		case r < 32 || r == 127 || broken(s, i, r):
			b = append(b, '\\', 'x', figures[s[i]>>4], figures[s[i]&15])
		default:
			b = utf8.AppendRune(b, r)
		}
	}
	return string(append(b, '"'))
}

// Unquote: the text whose Quote this is; ErrText, if there is none.
func Unquote(s string) (string, api.Errno) {
	if len(s) < 2 {
		return "", api.ErrText
	}
	t := plain(s[1 : len(s)-1])
	// plain takes more than Quote writes (no quotes about it, other escapes, escapes that aren't needed): what comes of those has another Quote.
	if Quote(t) != s {
		return "", api.ErrText
	}
	return t, api.OK
}

// escape is how much of an escape was read.
type escape int

const (
	outside escape = iota
	begun          // the backslash
	hex            // the x, too
	half           // one figure, too
)

// plain turns back the escapes of what stands between quotes.
func plain(s string) string {
	b := make([]byte, 0, len(s))
	at, high := outside, byte(0)
	for _, r := range s {
		switch {
		case at == outside && r == '\\':
			at = begun
		case at == begun && r == 'x':
			at = hex
		case at == hex:
			at, high = half, figure(r)
		case at == half:
			at = outside
			b = append(b, high<<4|figure(r))
		default:
			at = outside
			b = utf8.AppendRune(b, r)
		}
	}
	return string(b)
}

// figure: a figure's number; 0 of what is no figure.
func figure(r rune) byte {
	return byte(max(strings.IndexRune(figures, r), 0))
}
