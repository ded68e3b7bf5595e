package regex

import (
	"scribe/api"
)

// reader goes through a pattern from left to right, up to its end or to the first error.
type reader struct {
	s    string
	at   int
	open int // brackets that aren't closed yet
	bad  int // the place of the first error
	err  api.Errno
}

// fail keeps the first error. It leaves nothing to be read, so that all that reads ends.
func (r *reader) fail(at int, e api.Errno) {
	if r.err == api.OK {
		r.bad, r.err = at, e
	}
	r.at = len(r.s)
}

// done: is nothing left?
func (r *reader) done() bool {
	return r.at == len(r.s)
}

// take: does this byte come? It is taken then.
func (r *reader) take(c byte) bool {
	if r.done() || r.s[r.at] != c {
		return false
	}
	r.at++
	return true
}

// pattern takes parts, as far as there are.
func (r *reader) pattern() Node {
	parts := []Node{r.part()}
	for r.take('|') {
		parts = append(parts, r.part())
	}
	return gather(Alt, parts)
}

// part takes things and the signs behind them, as far as there are.
func (r *reader) part() Node {
	var things []Node
reading:
	for !r.done() {
		switch c := r.s[r.at]; c {
		case '|', ')':
			break reading
		case '*', '+', '?':
			if len(things) == 0 {
				r.fail(r.at, api.ErrSyntax)
				break reading
			}
			last := &things[len(things)-1]
			*last = Node{Op: often(c), Kids: []Node{*last}}
			r.at++
		default:
			things = append(things, r.thing())
		}
	}
	return gather(Cat, things)
}

// often: what a sign behind a thing makes of it.
func often(sign byte) int {
	switch sign {
	case '*':
		return Star
	case '+':
		return Plus
	}
	return Opt
}

// thing takes the one that comes; without the signs behind it.
func (r *reader) thing() Node {
	switch r.s[r.at] {
	case '(':
		return r.group()
	case '[':
		return r.set()
	case '.':
		r.at++
		return Node{Op: One, Set: Set{}.Not()}
	case '^':
		r.at++
		return Node{Op: Begin}
	case '$':
		r.at++
		return Node{Op: End}
	}
	return Node{Op: One, Set: Set{}.With(r.next())}
}

// group takes a pattern in brackets.
func (r *reader) group() Node {
	start := r.at
	if r.open == MaxDeep {
		r.fail(start, api.ErrDeep)
		return Node{}
	}
	r.at++
	r.open++
	n := r.pattern()
	r.open--
	if !r.take(')') {
		r.fail(start, api.ErrSyntax)
	}
	return n
}

// set takes a set in its brackets.
func (r *reader) set() Node {
	start := r.at
	r.at++
	not := r.take('^')
	// The first byte is one of the set even if it is a ].
	s := r.span(start)
	for !r.take(']') {
		if r.done() {
			r.fail(start, api.ErrSyntax)
			return Node{}
		}
		s = s.or(r.span(start))
	}
	if not {
		s = s.Not()
	}
	return Node{Op: One, Set: s}
}

// span takes a byte or a range, if there is one, of the set that begins at a place.
func (r *reader) span(start int) Set {
	if r.done() {
		return Set{}
	}
	low := r.next()
	high := low
	if r.dash() {
		r.at++
		high = r.next()
	}
	if low > high {
		r.fail(start, api.ErrSyntax)
	}
	var s Set
	for c := int(low); c <= int(high); c++ {
		s = s.With(byte(c))
	}
	return s
}

// dash: does a - come that parts the two bytes of a range?
func (r *reader) dash() bool {
	rest := r.s[r.at:]
	return len(rest) > 1 && rest[0] == '-' && rest[1] != ']'
}

// next takes the byte that comes, or a backslash and the byte behind it, and answers which byte they stand for.
func (r *reader) next() byte {
	if !r.take('\\') {
		c := r.s[r.at]
		r.at++
		return c
	}
	c, ok := escaped(r.s[r.at:])
	if !ok {
		r.fail(r.at-1, api.ErrSyntax)
		return 0
	}
	r.at++
	return c
}

// escaped: the byte that a backslash ahead of a text and the text's first byte stand for; false, if that may not stand there.
func escaped(s string) (byte, bool) {
	switch {
	case s == "" || s[0] < ' ' || s[0] > '~':
		return 0, false
	case s[0] == 'n':
		return '\n', true
	case s[0] == 't':
		return '\t', true
	}
	return s[0], !isLetter(s[0]) && !isDigit(s[0])
}

func isLetter(c byte) bool {
	return 'a' <= c && c <= 'z' || 'A' <= c && c <= 'Z'
}

func isDigit(c byte) bool {
	return '0' <= c && c <= '9'
}
