package code

// isSaid: is a step one of the language's, with an A and a B that there are, and may it stand in this part?
func (w *walk) isSaid(x Ins, part int) bool {
	switch x.Op {
	case Num:
		return within(x.A, len(w.Nums))
	case Str:
		return within(x.A, len(w.Strs))
	case Get:
		return w.isVariable(x.A, x.B, part, false)
	case Elem, In, Delete, Clear, Ref, Iter:
		return w.isVariable(x.A, x.B, part, true)
	case Set:
		return within(x.B, 2*ways) && w.isVariable(x.A, x.B%2, part, false)
	case SetField:
		return within(x.B, ways)
	case SetElem:
		return within(x.B, 2*ways) && w.isVariable(x.A, x.B%2, part, true)
	case Binary:
		return within(x.A, binaries)
	case Unary:
		return within(x.A, unaries)
	case Match, Sub, Exit:
		return within(x.A, 2)
	case Call:
		return within(x.A, len(w.Funcs)) && within(x.B, len(w.Funcs[x.A].Arrays)+1)
	case Return:
		return part >= functionPart
	case Builtin:
		return within(x.A, len(functions)) && functions[x.A].least <= x.B && x.B <= functions[x.A].most
	case Print, Printf:
		return within(x.A-1, maxValues) && within(x.B, 3)
	case Next:
		return part == recordPart
	case Stop:
		return part < functionPart
	}
	return Num <= x.Op && x.Op <= Stop
}

// isVariable: is there a variable a of b in this part, and is it an array, or a single value, as is asked?
func (w *walk) isVariable(a, b, part int, array bool) bool {
	arrays := w.Arrays
	switch {
	case b == 1 && part >= functionPart:
		arrays = w.Funcs[part-functionPart].Arrays
	case b != 0:
		return false
	}
	return within(a, len(arrays)) && arrays[a] == array
}

// takes: how many things a step takes from the stack.
func takes(x Ins) int {
	switch x.Op {
	case Field, Elem, Unary, In, Delete, JumpIf, JumpNot, Pop, Bool, Dup, Return:
		return 1
	case Binary, Match:
		return 2
	case Sub:
		return 3
	case Set:
		return valuesFor(x.B / 2)
	case SetField:
		return 1 + valuesFor(x.B)
	case SetElem:
		return 1 + valuesFor(x.B/2)
	case Call:
		return x.B
	case Builtin:
		if x.A == split {
			return min(x.B, 3) // splitByPattern says how, not how many
		}
		return x.B
	case Print, Printf:
		return x.A + min(x.B, 1)
	case Exit:
		return x.A
	}
	return 0
}

// valuesFor: how many values it takes to lay something in this way.
func valuesFor(way int) int {
	if takesValue(way) {
		return 1
	}
	return 0
}

// takesArray: has thing i of those that a step takes to be an array itself?
func (w *walk) takesArray(x Ins, i int) bool {
	switch x.Op {
	case Call:
		return w.Funcs[x.A].Arrays[i]
	case Builtin:
		return x.A == split && i == 1
	}
	return false
}

// finds: does a step find what it takes, where it is met like this?
func (w *walk) finds(x Ins, s Shape) bool {
	switch x.Op {
	case Step, Drop:
		return s.Iters > 0
	case Stop:
		return s.Stack == "" && s.Iters == 0
	}
	below := len(s.Stack) - takes(x)
	if below < 0 {
		return false
	}
	for i, thing := range []byte(s.Stack[below:]) {
		if (thing == 'a') != w.takesArray(x, i) {
			return false
		}
	}
	return true
}

// leaves: what a step lays on the stack, whatever comes behind it.
func leaves(op int) string {
	switch op {
	case Delete, Clear, Jump, JumpIf, JumpNot, Pop, Return, Print, Printf, Iter, Step, Drop, Next, Exit, Stop:
		return ""
	case Dup:
		return "vv"
	case Ref:
		return "a"
	}
	return "v"
}
