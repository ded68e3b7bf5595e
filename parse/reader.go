package parse

import (
	"scribe/api"
	"scribe/ast"
	"scribe/lex"
)

// reader goes through tokens from left to right, up to the end or to the first one that can't stand where it does.
type reader struct {
	tokens   []lex.Token // the last one is the end
	at       int
	deep     int  // levels that were begun and aren't over
	printing bool // does > say where something is printed to?
	bad      int  // the place of the first error
	err      api.Errno
}

// fail keeps the first error. It leaves nothing but the end to be read, so that all that reads ends.
func (r *reader) fail(at int, e api.Errno) {
	if r.err == api.OK {
		r.bad, r.err = at, e
	}
	r.at = len(r.tokens) - 1
}

// refuse: the token that comes can't stand here.
func (r *reader) refuse() {
	t := r.token()
	if t.Kind == lex.Banned || r.comes("|") {
		r.fail(t.At, api.ErrBan)
		return
	}
	r.fail(t.At, api.ErrSyntax)
}

// enter begins a level of what stands within one another.
func (r *reader) enter() {
	r.deep++
	if r.deep > api.MaxDepth {
		r.fail(r.token().At, api.ErrDeep)
	}
}

// leave ends the level that was begun last.
func (r *reader) leave() {
	r.deep--
}

// token: the one that comes.
func (r *reader) token() lex.Token {
	return r.tokens[r.at]
}

// next takes the token that comes. The end stays.
func (r *reader) next() lex.Token {
	t := r.token()
	if t.Kind != lex.End {
		r.at++
	}
	return t
}

// kind: is the token that comes of this kind?
func (r *reader) kind(kind int) bool {
	return r.token().Kind == kind
}

// fixed: the text of the token that comes, if it is a Sign or a Word; else nothing.
func (r *reader) fixed() string {
	if r.kind(lex.Sign) || r.kind(lex.Word) {
		return r.token().Text
	}
	return ""
}

// comes: does this Sign or Word come?
func (r *reader) comes(text string) bool {
	return r.fixed() == text
}

// take: does this Sign or Word come? It is taken then.
func (r *reader) take(text string) bool {
	if !r.comes(text) {
		return false
	}
	r.next()
	return true
}

// want takes this Sign or Word, which has to come.
func (r *reader) want(text string) {
	if !r.take(text) {
		r.refuse()
	}
}

// wantName takes a Name, which has to come.
func (r *reader) wantName() lex.Token {
	if !r.kind(lex.Name) {
		r.refuse()
	}
	return r.next()
}

// newlines passes all that come.
func (r *reader) newlines() {
	for r.kind(lex.Newline) {
		r.next()
	}
}

// separators passes all Newlines and ; that come.
func (r *reader) separators() {
	for r.kind(lex.Newline) || r.comes(";") {
		r.next()
	}
}

// within takes two signs and what is read between them, with Newlines around it.
func (r *reader) within(opening string, read func() []ast.Node, closing string) []ast.Node {
	// What is printed may have brackets within, and in these > compares.
	printing := r.printing
	r.printing = false
	r.want(opening)
	r.newlines()
	l := read()
	r.newlines()
	r.want(closing)
	r.printing = printing
	return l
}

// list takes expressions in ( ), perhaps none.
func (r *reader) list() []ast.Node {
	return r.within("(", r.arguments, ")")
}

// arguments takes expressions with commas between, none if ) comes.
func (r *reader) arguments() []ast.Node {
	if r.comes(")") {
		return nil
	}
	return r.row(r.expression)
}

// row takes one or more of what a level reads, with commas between.
func (r *reader) row(read func() ast.Node) []ast.Node {
	l := []ast.Node{read()}
	for r.take(",") {
		r.newlines()
		l = append(l, read())
	}
	return l
}

// single takes one expression.
func (r *reader) single() []ast.Node {
	return []ast.Node{r.expression()}
}
