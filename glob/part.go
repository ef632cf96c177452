package glob

import "slices"

// part is a part of a pattern: it tells a rune that is in one of its spans, or, with not, in none of them.
type part struct {
	row   bool // it tells so any number of runes
	not   bool
	spans []span
}

// span is the runes from one up to another one.
type span struct {
	first, last rune
}

// parse: a pattern's parts; false, if it is none.
func parse(l []rune) ([]part, bool) {
	var parts []part
	for i := 0; i < len(l); i++ {
		switch l[i] {
		case '*':
			parts = append(parts, part{row: true, not: true}) // none of no spans: any rune
		case '?':
			parts = append(parts, part{not: true})
		case '[':
			n := slices.Index(l[i+1:], ']')
			if n < 0 {
				return nil, false
			}
			p, ok := class(l[i+1 : i+1+n])
			if !ok {
				return nil, false
			}
			parts = append(parts, p)
			i += 1 + n
		default:
			parts = append(parts, part{spans: []span{{l[i], l[i]}}})
		}
	}
	return parts, true
}

// class: the part of what stands between [ and ]; false, if it is none.
func class(l []rune) (part, bool) {
	var p part
	if len(l) > 0 && l[0] == '^' {
		p.not = true
		l = l[1:]
	}
	for len(l) > 0 {
		s, n := span{l[0], l[0]}, 1
		if len(l) > 2 && l[1] == '-' { // a - that is the last rune is itself
			s.last, n = l[2], 3
		}
		if s.last < s.first {
			return part{}, false
		}
		p.spans = append(p.spans, s)
		l = l[n:]
	}
	return p, len(p.spans) > 0
}

// tells: is the rune one of the part's?
func (p part) tells(r rune) bool {
	for _, s := range p.spans {
		if s.first <= r && r <= s.last {
			return !p.not
		}
	}
	return p.not
}

// alone: the only rune of a part that is written as one.
func (p part) alone() (rune, bool) {
	if p.not || len(p.spans) != 1 || p.spans[0].first != p.spans[0].last {
		return 0, false
	}
	return p.spans[0].first, true
}
