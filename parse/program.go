package parse

import (
	"scribe/ast"
	"scribe/lex"
)

// program takes all items, with what stands around them.
func (r *reader) program() ast.Node {
	var items []ast.Node
	for r.separators(); !r.kind(lex.End); r.separators() {
		items = append(items, r.item())
	}
	return node("program", items...)
}

// item takes a part of a program.
func (r *reader) item() ast.Node {
	switch {
	case r.take("BEGIN"):
		return node("begin", r.block())
	case r.take("END"):
		return node("end", r.block())
	case r.take("function"):
		return r.function()
	case r.comes("{"):
		return node("rule", node("always"), r.block())
	}
	return r.rule()
}

// function takes a function's name, its params and its block.
func (r *reader) function() ast.Node {
	if !r.kind(lex.Name) && !r.kind(lex.Func) {
		r.refuse()
	}
	name := r.next()
	kids := r.within("(", r.params, ")")
	r.newlines()
	return named("func", name, append(kids, r.block())...)
}

// params takes a function's names, none if ) comes.
func (r *reader) params() []ast.Node {
	if r.comes(")") {
		return nil
	}
	return r.row(r.param)
}

func (r *reader) param() ast.Node {
	return named("param", r.wantName())
}

// rule takes one that has an expression.
func (r *reader) rule() ast.Node {
	n := r.expression()
	if r.comes("{") {
		return node("rule", n, r.block())
	}
	if !r.kind(lex.Newline) && !r.kind(lex.End) && !r.comes(";") {
		r.refuse()
	}
	return node("rule", n, node("default"))
}
