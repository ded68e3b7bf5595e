package pack

import (
	"iter"
	"math"
	"strings"

	"scribe/api"
)

// maxDigits is how many digits a number may have: as many as the ends of an int. So the digits' number stays below 2^64.
const maxDigits = 19

// Reader takes things, one behind the other.
type Reader struct {
	s    string
	at   int
	open int
	err  api.Errno
}

// Read: a reader at the beginning of s.
func Read(s string) *Reader {
	return &Reader{s: s}
}

// Int: a number, as Writer's.
func (r *Reader) Int() int {
	r.sign('i')
	n := r.number()
	r.sign(';')
	if r.err != api.OK {
		return 0
	}
	return n
}

// Text: as Writer's, of at most so many bytes.
func (r *Reader) Text(most int) string {
	// The answer mustn't share memory with the bytes that are read.
	return strings.Clone(r.text(most))
}

// Open: a list begins.
func (r *Reader) Open() {
	if r.err == api.OK && r.open == MaxDeep {
		r.err = api.ErrDeep
	}
	r.sign('(')
	if r.err == api.OK {
		r.open++
	}
}

// More: does something stand in the list yet?
func (r *Reader) More() bool {
	return r.err == api.OK && r.at < len(r.s) && !r.stands(')')
}

// Close: a list ends.
func (r *Reader) Close() {
	if r.err == api.OK && r.open == 0 {
		r.err = api.ErrForm
	}
	r.sign(')')
	if r.err == api.OK {
		r.open--
	}
}

// Skip: the next thing, whatever it is.
func (r *Reader) Skip() {
	switch {
	case r.stands('i'):
		r.Int()
	case r.stands('('):
		r.Open()
		for r.More() {
			r.Skip()
		}
		r.Close()
	default:
		r.text(len(r.s))
	}
}

// At: how many bytes were taken.
func (r *Reader) At() int {
	return r.at
}

// Err: the first error.
func (r *Reader) Err() api.Errno {
	return r.err
}

// Done: the first error; ErrForm, if bytes are left, or a list is open.
func (r *Reader) Done() api.Errno {
	if r.err == api.OK && (r.at < len(r.s) || r.open > 0) {
		r.err = api.ErrForm
	}
	return r.err
}

// Things: one behind the other, each with its place, up to the end, or to what isn't one.
func Things(s string) iter.Seq2[int, string] {
	return func(yield func(int, string) bool) {
		r := Read(s)
		for r.at < len(s) {
			at := r.at
			r.Skip()
			if r.err != api.OK || !yield(at, strings.Clone(s[at:r.at])) {
				return
			}
		}
	}
}

// stands: is c the next sign?
func (r *Reader) stands(c byte) bool {
	return r.at < len(r.s) && r.s[r.at] == c
}

// sign takes c.
func (r *Reader) sign(c byte) {
	switch {
	case r.err != api.OK:
	case r.stands(c):
		r.at++
	default:
		r.refuse()
	}
}

// refuse: what stands here, or that nothing does, is the error.
func (r *Reader) refuse() {
	r.err = api.ErrForm
	if r.at == len(r.s) {
		r.err = api.ErrEnd
	}
}

// number takes an int's digits, and the - ahead of them.
func (r *Reader) number() int {
	if r.err != api.OK || !r.stands('-') {
		return int(r.digits(math.MaxInt))
	}
	r.at++
	if r.stands('0') {
		r.err = api.ErrForm
		return 0
	}
	// Below 0 an int reaches one further. The sign is turned ahead of int, where that one has no counterpart.
	return int(-r.digits(math.MaxInt + 1))
}

// digits takes the digits of a number up to most.
func (r *Reader) digits(most uint64) uint64 {
	if r.err != api.OK {
		return 0
	}
	n, first := uint64(0), r.at
	for r.at < len(r.s) && isDigit(r.s[r.at]) {
		count := r.at - first
		if count == maxDigits || count == 1 && n == 0 {
			r.err = api.ErrForm
			return 0
		}
		n = n*10 + uint64(r.s[r.at]-'0')
		r.at++
	}
	switch {
	case r.at == first:
		r.refuse()
		return 0
	case n > most:
		r.err = api.ErrForm
		return 0
	}
	return n
}

// text takes a text, and answers it as a part of the bytes that are read.
func (r *Reader) text(most int) string {
	n := int(r.digits(math.MaxInt))
	if r.err == api.OK && n > max(most, 0) {
		r.err = api.ErrBig
	}
	r.sign(':')
	if r.err == api.OK && n > len(r.s)-r.at {
		r.err = api.ErrEnd
	}
	if r.err != api.OK {
		return ""
	}
	r.at += n
	return r.s[r.at-n : r.at]
}

func isDigit(c byte) bool {
	return '0' <= c && c <= '9'
}
