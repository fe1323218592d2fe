package names

import (
	"unicode/utf8"

	"gabion/api"
)

// stroke is the reversed stroke, that takes a letter's meaning away.
const stroke = 0x5C

// part is a piece of a pattern: any letters, or what one letter must be.
type part struct {
	any   bool
	not   bool // one that is none of these: without any of these, each one
	these []span
}

// span: letters, from one to another; none, if the last one is the lesser.
type span struct {
	from, to rune
}

// Match: does a name fit a pattern, letter by letter?
func Match(pattern, name string) (bool, api.Errno) {
	parts, ok := parse(pattern)
	if !ok {
		return false, api.Form
	}
	return fit(parts, []rune(name)), api.OK
}

// parse: the pieces of a pattern; false: it is none.
func parse(pattern string) ([]part, bool) {
	// Bytes that are no letters look like the letter FFFD once they are runes.
	if !utf8.ValidString(pattern) {
		return nil, false
	}
	var parts []part
	for left := []rune(pattern); len(left) > 0; {
		p, rest, ok := first(left)
		if !ok {
			return nil, false
		}
		parts = append(parts, p)
		left = rest
	}
	return parts, true
}

// first: a pattern's first piece, and what is behind it.
func first(l []rune) (part, []rune, bool) {
	switch l[0] {
	case '*':
		return part{any: true}, l[1:], true
	case '?':
		return part{not: true}, l[1:], true
	case '[':
		return brackets(l[1:])
	}
	c, rest, ok := letter(l)
	return part{these: []span{{c, c}}}, rest, ok
}

// brackets: what stands between [ and ], and what is behind.
func brackets(l []rune) (part, []rune, bool) {
	p := part{}
	if len(l) > 0 && l[0] == '^' {
		p.not = true
		l = l[1:]
	}
	for len(l) > 0 && l[0] != ']' {
		s, rest, ok := choice(l)
		if !ok {
			return part{}, nil, false
		}
		p.these = append(p.these, s)
		l = rest
	}
	if len(l) == 0 || len(p.these) == 0 {
		return part{}, nil, false
	}
	return p, l[1:], true
}

// choice: one letter, or a range, within brackets, and what is behind it.
func choice(l []rune) (span, []rune, bool) {
	c, rest, ok := letter(l)
	if len(rest) > 1 && rest[0] == '-' && rest[1] != ']' {
		// A range's second letter is itself, whichever it is.
		return span{c, rest[1]}, rest[2:], ok
	}
	return span{c, c}, rest, ok
}

// letter: one letter, a reversed stroke ahead of it or not, and what is behind it.
func letter(l []rune) (rune, []rune, bool) {
	if l[0] != stroke {
		return l[0], l[1:], true
	}
	if len(l) == 1 {
		return 0, nil, false
	}
	return l[1], l[2:], true
}

// fit: do letters fit the pieces? Going back to the last piece that takes any letters is enough: one ahead of it could only take what that one may take as well.
func fit(parts []part, name []rune) bool {
	at, last, taken := 0, -1, 0
	for n := 0; n < len(name); {
		switch {
		case at < len(parts) && parts[at].any:
			last, taken = at, n
			at++
		case at < len(parts) && parts[at].takes(name[n]):
			at++
			n++
		case last >= 0:
			taken++
			at, n = last+1, taken
		default:
			return false
		}
	}
	for at < len(parts) && parts[at].any {
		at++
	}
	return at == len(parts)
}

// takes: may this letter stand here?
func (p part) takes(c rune) bool {
	for _, s := range p.these {
		if s.from <= c && c <= s.to {
			return !p.not
		}
	}
	return p.not
}
