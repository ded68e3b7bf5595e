package parse

import (
	"scribe/api"
	"scribe/ast"
	"scribe/lex"
)

// block takes statements in { }. A ; among them is none of them: it stands between.
func (r *reader) block() ast.Node {
	var l []ast.Node
	r.want("{")
	for r.separators(); r.err == api.OK && !r.take("}"); r.separators() {
		l = append(l, r.statement())
	}
	return node("block", l...)
}

// body takes the statement that an if or a loop has.
func (r *reader) body() ast.Node {
	r.newlines()
	return r.statement()
}

// statement takes one, with what ends it.
func (r *reader) statement() ast.Node {
	r.enter()
	defer r.leave()
	switch {
	case r.comes("{"):
		return r.block()
	case r.take(";"):
		return node("empty")
	case r.take("if"):
		return r.choice()
	case r.take("while"):
		return node("while", append(r.within("(", r.single, ")"), r.body())...)
	case r.take("for"):
		return r.loop()
	}
	n := r.simple()
	r.endSimple()
	return n
}

// endSimple takes what ends a simple statement, but a }, which ends the block too.
func (r *reader) endSimple() {
	switch {
	case r.kind(lex.Newline):
		r.next()
	case r.take(";"), r.comes("}"):
	default:
		r.refuse()
	}
}

// choice takes what stands behind an if.
func (r *reader) choice() ast.Node {
	kids := append(r.within("(", r.single, ")"), r.body())
	if r.takeElse() {
		kids = append(kids, r.body())
	}
	return node("if", kids...)
}

// takeElse: does an else come, perhaps behind Newlines and a ; ? All of it is taken then, and else nothing: without an else they belong to what stands around the if.
func (r *reader) takeElse() bool {
	start := r.at
	r.newlines()
	r.take(";")
	r.newlines()
	if r.take("else") {
		return true
	}
	r.at = start
	return false
}

// loop takes what stands behind a for.
func (r *reader) loop() ast.Node {
	var first lex.Token
	op := "for"
	kids := r.within("(", func() []ast.Node {
		if !r.keysCome() {
			return r.steps()
		}
		op, first = "forin", r.wantName()
		r.want("in")
		return []ast.Node{named("name", r.wantName())}
	}, ")")
	return named(op, first, append(kids, r.body())...)
}

// keysCome: do a Name, in, a Name come, and then what closes a bracket? A for with three parts may begin with the first three, too.
func (r *reader) keysCome() bool {
	l := r.tokens[r.at:]
	if len(l) < 4 || l[0].Kind != lex.Name || l[1].Kind != lex.Word || l[1].Text != "in" || l[2].Kind != lex.Name {
		return false
	}
	return l[3].Kind == lex.Newline || l[3].Kind == lex.Sign && l[3].Text == ")"
}

// steps takes the three parts of a for.
func (r *reader) steps() []ast.Node {
	first := r.unless(";", r.simple)
	r.want(";")
	r.newlines()
	second := r.unless(";", r.expression)
	r.want(";")
	r.newlines()
	return []ast.Node{first, second, r.unless(")", r.simple)}
}

// unless: what a level reads, or none if a sign comes.
func (r *reader) unless(sign string, read func() ast.Node) ast.Node {
	if r.comes(sign) {
		return node("none")
	}
	return read()
}

// simple takes a statement that has none within, without what ends it.
func (r *reader) simple() ast.Node {
	t := r.token()
	switch word := r.fixed(); word {
	case "break", "continue", "next":
		r.next()
		return ast.Node{Op: word, At: t.At}
	case "exit", "return":
		r.next()
		n := ast.Node{Op: word, At: t.At}
		if !r.simpleEnds() {
			n.Kids = r.single()
		}
		return n
	case "delete":
		r.next()
		return node("delete", r.element("name"))
	case "print", "printf":
		r.next()
		return r.print(word)
	}
	return node("expr", r.expression())
}

// simpleEnds: does something come that may stand behind a simple statement, in a block or in the brackets of a for?
func (r *reader) simpleEnds() bool {
	return r.kind(lex.Newline) || r.kind(lex.End) || r.comes(";") || r.comes("}") || r.comes(")")
}

// print takes what stands behind a print or a printf.
func (r *reader) print(op string) ast.Node {
	l := r.printed()
	n := node(op, append([]ast.Node{r.target()}, l...)...)
	if op == "printf" && len(l) == 0 {
		r.refuse()
	}
	return n
}

// printed takes expressions, perhaps none.
func (r *reader) printed() []ast.Node {
	if r.comes("(") && r.printedInBrackets() {
		return r.list()
	}
	if r.simpleEnds() || r.targetComes() {
		return nil
	}
	r.printing = true
	l := r.row(r.expression)
	r.printing = false
	return l
}

// printedInBrackets: does the ( that comes hold all that is printed? What stands behind its ) says so.
func (r *reader) printedInBrackets() bool {
	ahead := reader{tokens: r.tokens, at: r.at}
	for open := 0; !ahead.kind(lex.End); {
		switch ahead.fixed() {
		case "(":
			open++
		case ")":
			open--
		}
		ahead.next()
		if open == 0 {
			return ahead.kind(lex.Newline) || ahead.kind(lex.End) || ahead.comes(";") || ahead.comes("}") || ahead.targetComes()
		}
	}
	return false
}

// targetComes: does a sign come that says where something is printed to?
func (r *reader) targetComes() bool {
	return r.comes(">") || r.comes(">>")
}

// target takes where something is printed to, if it is said.
func (r *reader) target() ast.Node {
	switch {
	case r.take(">"):
		return node("to", r.sideBySide())
	case r.take(">>"):
		return node("append", r.sideBySide())
	}
	return node("none")
}
