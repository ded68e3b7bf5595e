package code

import (
	"scribe/ast"
	"scribe/num"
)

// expression makes the steps that push the value of one.
func (c *compiler) expression(n ast.Node) {
	switch n.Op {
	case "num":
		value, _ := num.Prefix(n.Text)
		c.number(value)
	case "str":
		c.text(n.Text)
	case "re":
		c.record()
		c.text(n.Text)
		c.add(Match, 0, 0)
	case "var", "index", "field":
		c.place(n)
		c.read(n)
	case "assign", "preinc", "predec", "postinc", "postdec":
		c.assign(n)
	case "cond":
		c.cond(n.Kids[0], n.Kids[1], n.Kids[2])
	case "and":
		c.both(JumpNot, 0, n.Kids)
	case "or":
		c.both(JumpIf, num.One, n.Kids)
	case "match":
		c.match(0, n.Kids)
	case "nomatch":
		c.match(1, n.Kids)
	case "in":
		c.expressions(n.Kids)
		a, b := c.variable(n.Text)
		c.add(In, a, b)
	case "not", "neg", "plus":
		c.expressions(n.Kids)
		c.add(Unary, unaryOf(n.Op), 0)
	case "call":
		c.call(n)
	case "builtin":
		c.builtin(n.Text, n.Kids)
	default:
		c.expressions(n.Kids)
		c.add(Binary, binaryOf(n.Op), 0)
	}
}

// expressions makes those that push a value each.
func (c *compiler) expressions(l []ast.Node) {
	for _, n := range l {
		c.expression(n)
	}
}

// cond makes one of two values, by what is asked.
func (c *compiler) cond(asked, yes, no ast.Node) {
	past := c.unless(asked)
	c.expression(yes)
	end := c.jump(Jump)
	c.land(past)
	c.expression(no)
	c.land([]int{end})
}

// both makes an and or an or: a jump behind the first one, if that says all, and the value that it says then.
func (c *compiler) both(op int, said num.Num, kids []ast.Node) {
	c.expression(kids[0])
	past := c.jump(op)
	c.expression(kids[1])
	c.add(Bool, 0, 0)
	end := c.jump(Jump)
	c.land([]int{past})
	c.number(said)
	c.land([]int{end})
}

// match makes a question for a pattern, turned about or not.
func (c *compiler) match(turned int, kids []ast.Node) {
	c.expression(kids[0])
	c.pattern(kids[1])
	c.add(Match, turned, 0)
}

// pattern pushes the text of one: a re's own one, not whether the record has it.
func (c *compiler) pattern(n ast.Node) {
	if n.Op == "re" {
		c.text(n.Text)
		return
	}
	c.expression(n)
}

// call makes one of the program's functions, with what it is asked of.
func (c *compiler) call(n ast.Node) {
	f := c.functionOf(n.Text)
	for i, kid := range n.Kids {
		if c.names.Funcs[f].Arrays[i] {
			c.array(kid.Text)
			continue
		}
		c.expression(kid)
	}
	c.add(Call, f, len(n.Kids))
}

// array pushes one itself.
func (c *compiler) array(name string) {
	a, b := c.variable(name)
	c.add(Ref, a, b)
}

// builtin makes one of the language's functions, with what it is asked of.
func (c *compiler) builtin(name string, kids []ast.Node) {
	count := len(kids)
	switch name {
	case "sub":
		c.replace(0, kids[0], kids[1], kids[2])
		return
	case "gsub":
		c.replace(1, kids[0], kids[1], kids[2])
		return
	case "length":
		if count == 0 {
			c.record()
		}
		c.expressions(kids)
		count = 1
	case "match":
		c.expression(kids[0])
		c.pattern(kids[1])
	case "split":
		count = c.splitValues(kids)
	default:
		c.expressions(kids)
	}
	c.add(Builtin, numberOf(name), count)
}

// splitValues makes what split is asked of, and answers what its step says of them.
func (c *compiler) splitValues(kids []ast.Node) int {
	c.expression(kids[0])
	c.array(kids[1].Text)
	if len(kids) == 2 {
		return 2
	}
	c.pattern(kids[2])
	if kids[2].Op == "re" {
		return splitByPattern
	}
	return 3
}
