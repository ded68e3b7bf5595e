package code

import "scribe/ast"

// place makes what says where something lies: the key, or the field's number; nothing of a variable.
func (c *compiler) place(n ast.Node) {
	c.expressions(n.Kids)
}

// read makes the value that lies in a place, of what says where it is.
func (c *compiler) read(n ast.Node) {
	if n.Op == "field" {
		c.add(Field, 0, 0)
		return
	}
	op := Get
	if n.Op == "index" {
		op = Elem
	}
	a, b := c.variable(n.Text)
	c.add(op, a, b)
}

// layIn lays something in a place, in one of the ways.
func (c *compiler) layIn(n ast.Node, way int) {
	if n.Op == "field" {
		c.add(SetField, 0, way)
		return
	}
	op := Set
	if n.Op == "index" {
		op = SetElem
	}
	a, b := c.variable(n.Text)
	c.add(op, a, b+2*way)
}

// assign makes one, or a step up or down.
func (c *compiler) assign(n ast.Node) {
	way := 0
	switch n.Op {
	case "preinc":
		way = preInc
	case "predec":
		way = preDec
	case "postinc":
		way = postInc
	case "postdec":
		way = postDec
	default:
		way = wayOf(n.Text)
	}
	c.place(n.Kids[0])
	c.expressions(n.Kids[1:])
	c.layIn(n.Kids[0], way)
}

// replace makes a sub, or (all is 1) a gsub. What the place has is read ahead of the pattern and the text.
func (c *compiler) replace(all int, pattern, text, place ast.Node) {
	c.place(place)
	if place.Op != "var" {
		c.add(Dup, 0, 0)
	}
	c.read(place)
	c.pattern(pattern)
	c.expression(text)
	c.add(Sub, all, 0)
	c.layIn(place, plain)
	c.add(Pop, 0, 0)
	c.add(Hits, 0, 0)
}
