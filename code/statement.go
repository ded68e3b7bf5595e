package code

import "scribe/ast"

// statement makes the steps of one. Of empty and none there are none.
func (c *compiler) statement(n ast.Node) {
	switch n.Op {
	case "block":
		for _, kid := range n.Kids {
			c.statement(kid)
		}
	case "if":
		c.choice(n.Kids)
	case "while":
		c.loop(ast.Node{Op: "none"}, n.Kids[0], ast.Node{Op: "none"}, n.Kids[1])
	case "for":
		c.loop(n.Kids[0], n.Kids[1], n.Kids[2], n.Kids[3])
	case "forin":
		c.loopOverKeys(n.Text, n.Kids[0].Text, n.Kids[1])
	case "break":
		l := c.innermost()
		l.over = append(l.over, c.jump(Jump))
	case "continue":
		l := c.innermost()
		l.again = append(l.again, c.jump(Jump))
	case "next":
		c.add(Next, 0, 0)
	case "exit":
		c.expressions(n.Kids)
		c.add(Exit, len(n.Kids), 0)
	case "return":
		c.giveBack(n.Kids)
	case "delete":
		c.remove(n.Kids[0])
	case "default":
		c.print(Print, ast.Node{Op: "none"}, nil)
	case "print":
		c.print(Print, n.Kids[0], n.Kids[1:])
	case "printf":
		c.print(Printf, n.Kids[0], n.Kids[1:])
	case "expr":
		c.expression(n.Kids[0])
		c.add(Pop, 0, 0)
	}
}

// unless makes what is asked, and answers the jumps that are taken if it isn't true. What always holds has none.
func (c *compiler) unless(asked ast.Node) []int {
	if asked.Op == "always" || asked.Op == "none" {
		return nil
	}
	c.expression(asked)
	return []int{c.jump(JumpNot)}
}

// choice makes an if of what it asks, what is done if that holds, and perhaps what else.
func (c *compiler) choice(kids []ast.Node) {
	past := c.unless(kids[0])
	c.statement(kids[1])
	if len(kids) == 3 {
		end := c.jump(Jump)
		c.land(past)
		c.statement(kids[2])
		past = []int{end}
	}
	c.land(past)
}

// innermost: the loop that what is compiled stands in.
func (c *compiler) innermost() *loop {
	return &c.loops[len(c.loops)-1]
}

func (c *compiler) enter() {
	c.loops = append(c.loops, loop{})
}

// leave ends a loop: the jumps out of it lead to what comes next.
func (c *compiler) leave() {
	c.land(c.innermost().over)
	c.loops = c.loops[:len(c.loops)-1]
}

// loop makes one with three parts, and a body.
func (c *compiler) loop(first, asked, step, body ast.Node) {
	c.enter()
	c.statement(first)
	top := c.here()
	past := c.unless(asked)
	c.statement(body)
	c.land(c.innermost().again)
	// A continue may stand in the step, too: led to the step itself, it would never end.
	c.innermost().again = nil
	c.statement(step)
	c.land(c.innermost().again)
	c.add(Jump, top, 0)
	c.land(past)
	c.leave()
}

// loopOverKeys makes one that lays each key in a variable.
func (c *compiler) loopOverKeys(key, array string, body ast.Node) {
	c.enter()
	a, b := c.variable(array)
	c.add(Iter, a, b)
	top := c.jump(Step)
	c.layIn(ast.Node{Op: "var", Text: key}, plain)
	c.add(Pop, 0, 0)
	c.statement(body)
	c.land(c.innermost().again)
	c.add(Jump, top, 0)
	c.land([]int{top})
	c.leave()
	c.add(Drop, 0, 0)
}

// giveBack makes a return, perhaps of a value.
func (c *compiler) giveBack(value []ast.Node) {
	if len(value) == 0 {
		c.text("")
	}
	c.expressions(value)
	c.add(Return, 0, 0)
}

// remove makes a delete of a key, or of all.
func (c *compiler) remove(n ast.Node) {
	op := Clear
	if n.Op == "index" {
		c.expressions(n.Kids)
		op = Delete
	}
	a, b := c.variable(n.Text)
	c.add(op, a, b)
}

// print makes what prints some values, or the record if there are none.
func (c *compiler) print(op int, to ast.Node, values []ast.Node) {
	if len(values) == 0 {
		c.record()
	}
	c.expressions(values)
	c.expressions(to.Kids)
	c.add(op, max(1, len(values)), targetOf(to.Op))
}

// targetOf: how a print says where it prints to.
func targetOf(op string) int {
	switch op {
	case "to":
		return 1
	case "append":
		return 2
	}
	return 0
}
