package parse

import (
	"scribe/api"
	"scribe/ast"
	"scribe/lex"
	"scribe/regex"
)

// primary takes what binds closest.
func (r *reader) primary() ast.Node {
	switch r.token().Kind {
	case lex.Number:
		return named("num", r.next())
	case lex.String:
		return named("str", r.next())
	case lex.Regex:
		return r.pattern()
	case lex.Name:
		return r.element("var")
	case lex.Func:
		name := r.next()
		return named("call", name, r.list()...)
	case lex.Builtin:
		return r.builtin()
	}
	switch {
	case r.comes("("):
		return r.within("(", r.single, ")")[0]
	case r.take("$"):
		return r.field()
	}
	r.refuse()
	return ast.Node{}
}

// pattern takes a Regex, if it is one.
func (r *reader) pattern() ast.Node {
	if _, _, e := regex.Parse(r.token().Text); e != api.OK {
		r.refuse()
	}
	return named("re", r.next())
}

// element takes a Name, which is that of an array if a [ comes behind it, and else that of a node of this Op.
func (r *reader) element(op string) ast.Node {
	name := r.wantName()
	if r.comes("[") {
		return named("index", name, r.within("[", r.single, "]")...)
	}
	return named(op, name)
}

// field takes what stands behind a $.
func (r *reader) field() ast.Node {
	r.enter()
	defer r.leave()
	if r.stepComes() {
		return node("field", r.pre())
	}
	return node("field", r.primary())
}

// builtin takes a function of the language, with what it is asked of.
func (r *reader) builtin() ast.Node {
	name := r.next()
	if name.Text == "length" && !r.comes("(") {
		return named("builtin", name)
	}
	given := r.list()
	l, ok := taken(name, given)
	switch {
	case ok:
	case name.Text == "srand" && len(given) == 0:
		// It would ask the clock.
		r.fail(name.At, api.ErrBan)
	default:
		r.fail(name.At, api.ErrSyntax)
	}
	return named("builtin", name, l...)
}

// taken: the arguments of a function of the language, as they stand in the tree; false: it doesn't take these.
func taken(name lex.Token, l []ast.Node) ([]ast.Node, bool) {
	least, most := 1, 1
	switch name.Text {
	case "length":
		least = 0
	case "rand":
		least, most = 0, 0
	case "sprintf":
		most = len(l)
	case "index", "match":
		least, most = 2, 2
	case "sub", "gsub":
		if len(l) == 2 {
			l = append(l, node("field", ast.Node{Op: "num", Text: "0", At: name.At}))
		}
		if len(l) != 3 || !isPlace(l[2]) {
			return nil, false
		}
		least, most = 3, 3
	case "split":
		if len(l) < 2 || l[1].Op != "var" {
			return nil, false
		}
		l[1].Op = "name"
		fallthrough
	case "substr":
		least, most = 2, 3
	}
	return l, least <= len(l) && len(l) <= most
}
