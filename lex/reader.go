package lex

import (
	"strings"
)

// reader goes through a text from left to right, up to its end or to the first place where no token begins.
type reader struct {
	s      string
	at     int
	bad    bool // is the place where it stands wrong?
	tokens []Token
}

// add: a token of so many bytes begins here.
func (r *reader) add(kind int, text string, size int) {
	r.tokens = append(r.tokens, Token{kind, strings.Clone(text), r.at})
	r.at += size
}

// fail: at this place no token begins, or what began can't go on.
func (r *reader) fail(at int) bool {
	r.at, r.bad = at, true
	return false
}

// token takes the next one; false: there is none, since the text ends or is wrong.
func (r *reader) token() bool {
	r.at += blankSize(r.s[r.at:])
	rest := r.s[r.at:]
	if rest == "" {
		return false
	}
	switch c := rest[0]; {
	case c == '\n':
		r.add(Newline, "", 1)
	case c == '"':
		return r.quoted(String, stringEscape)
	case c == '/' && r.beginsRegex():
		return r.quoted(Regex, regexEscape)
	case isLetter(c):
		n := nameSize(rest)
		r.add(nameKind(rest[:n], rest[n:]), rest[:n], n)
	default:
		return r.numberOrSign(rest)
	}
	return true
}

// numberOrSign takes the one or the other, if the text that is left begins with one.
func (r *reader) numberOrSign(rest string) bool {
	if n := numberSize(rest); n > 0 {
		r.add(Number, rest[:n], n)
		return true
	}
	if n := signSize(rest); n > 0 {
		r.add(Sign, rest[:n], n)
		return true
	}
	return r.fail(r.at)
}

// beginsRegex: does a slash begin one here? It divides, where what stands ahead of it is a value.
func (r *reader) beginsRegex() bool {
	if len(r.tokens) == 0 {
		return true
	}
	switch t := r.tokens[len(r.tokens)-1]; t.Kind {
	case Number, String, Regex, Name:
		return false
	case Builtin:
		return t.Text != "length"
	case Sign:
		return t.Text != ")" && t.Text != "]" && t.Text != "++" && t.Text != "--"
	}
	return true
}

// quoted takes what stands between the sign that comes and the next one like it. What a backslash stands for, with a text behind it, is said by escape: nothing, if it can't stand there.
func (r *reader) quoted(kind int, escape func(string) string) bool {
	var text []byte
	for i := r.at + 1; i < len(r.s); i++ {
		switch c := r.s[i]; c {
		case r.s[r.at]:
			r.add(kind, string(text), i+1-r.at)
			return true
		case '\\':
			meant := escape(r.s[i+1:])
			if meant == "" {
				return r.fail(i)
			}
			text = append(text, meant...)
			i++
		case '\n':
			return r.fail(r.at)
		default:
			text = append(text, c)
		}
	}
	return r.fail(r.at)
}
