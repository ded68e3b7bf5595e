package parse

import (
	"slices"

	"scribe/ast"
	"scribe/lex"
)

// expression takes one, with all that binds loosely.
func (r *reader) expression() ast.Node {
	r.enter()
	defer r.leave()
	n := r.or()
	if r.take("?") {
		return r.cond(n)
	}
	switch r.fixed() {
	case "=", "+=", "-=", "*=", "/=", "%=":
		if isPlace(n) {
			sign := r.next().Text
			r.newlines()
			return ast.Node{Op: "assign", Text: sign, Kids: []ast.Node{n, r.expression()}}
		}
	}
	return n
}

// cond takes what stands behind a ? and what it asks for.
func (r *reader) cond(asked ast.Node) ast.Node {
	r.newlines()
	yes := r.expression()
	r.newlines()
	r.want(":")
	r.newlines()
	return node("cond", asked, yes, r.expression())
}

func (r *reader) or() ast.Node {
	return r.chain(r.and, "||")
}

func (r *reader) and() ast.Node {
	return r.chain(r.in, "&&")
}

func (r *reader) in() ast.Node {
	n := r.match()
	for r.take("in") {
		n = named("in", r.wantName(), n)
	}
	return n
}

func (r *reader) match() ast.Node {
	return r.chain(r.rel, "~", "!~")
}

func (r *reader) rel() ast.Node {
	n := r.sideBySide()
	switch sign := r.fixed(); sign {
	case ">":
		if r.printing {
			return n
		}
		fallthrough
	case "<", "<=", "==", "!=", ">=":
		r.next()
		return node(binary(sign), n, r.sideBySide())
	}
	return n
}

func (r *reader) sideBySide() ast.Node {
	n := r.sum()
	for r.valueComes() {
		n = node("cat", n, r.sum())
	}
	return n
}

// valueComes: does something come that goes on side by side with a value?
func (r *reader) valueComes() bool {
	switch r.token().Kind {
	case lex.Number, lex.String, lex.Name, lex.Func, lex.Builtin:
		return true
	}
	return r.comes("$") || r.comes("(")
}

func (r *reader) sum() ast.Node {
	return r.chain(r.product, "+", "-")
}

func (r *reader) product() ast.Node {
	return r.chain(r.unary, "*", "/", "%")
}

// chain takes parts with some of the signs between them: from the left to the right two are one.
func (r *reader) chain(part func() ast.Node, signs ...string) ast.Node {
	n := part()
	for slices.Contains(signs, r.fixed()) {
		op := binary(r.next().Text)
		if op == "or" || op == "and" {
			r.newlines()
		}
		n = node(op, n, part())
	}
	return n
}

// binary: what a sign between two parts makes of them.
func binary(sign string) string {
	switch sign {
	case "||":
		return "or"
	case "&&":
		return "and"
	case "~":
		return "match"
	case "!~":
		return "nomatch"
	case "<":
		return "less"
	case "<=":
		return "lesseq"
	case "==":
		return "equal"
	case "!=":
		return "notequal"
	case ">":
		return "greater"
	case ">=":
		return "greatereq"
	case "+":
		return "add"
	case "-":
		return "sub"
	case "*":
		return "mul"
	case "/":
		return "div"
	}
	return "mod"
}

func (r *reader) unary() ast.Node {
	switch r.fixed() {
	case "!":
		return r.signed("not")
	case "-":
		return r.signed("neg")
	case "+":
		return r.signed("plus")
	}
	return r.post()
}

// signed takes a sign and what it stands ahead of.
func (r *reader) signed(op string) ast.Node {
	r.next()
	r.enter()
	defer r.leave()
	return node(op, r.unary())
}

func (r *reader) post() ast.Node {
	if r.stepComes() {
		return r.pre()
	}
	n := r.primary()
	if !isPlace(n) {
		return n
	}
	switch {
	case r.take("++"):
		return node("postinc", n)
	case r.take("--"):
		return node("postdec", n)
	}
	return n
}

// stepComes: does ++ or -- come?
func (r *reader) stepComes() bool {
	return r.comes("++") || r.comes("--")
}

// pre takes ++ or -- and the place behind it.
func (r *reader) pre() ast.Node {
	op := "preinc"
	if r.next().Text == "--" {
		op = "predec"
	}
	n := r.primary()
	if !isPlace(n) {
		r.refuse()
	}
	return node(op, n)
}
