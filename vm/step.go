package vm

import (
	"scribe/api"
	"scribe/cell"
	"scribe/code"
	"scribe/num"
)

// step does the next one. Its error is the program's, which is over by it.
func (m *Machine) step() api.Errno {
	x := m.program.Code[m.PC]
	m.PC++
	switch x.Op {
	case code.Jump:
		m.PC = x.A
	case code.JumpIf, code.JumpNot:
		if m.pop().True() == (x.Op == code.JumpIf) {
			m.PC = x.A
		}
	case code.Pop:
		m.pop()
	case code.Call:
		return m.call(x.A, x.B)
	case code.Return:
		m.giveBack()
	case code.Delete:
		m.remove(m.array(x.A, x.B), m.pop().Str())
	case code.Clear:
		m.clear(m.array(x.A, x.B))
	case code.Print, code.Printf:
		return m.print(x)
	case code.Iter:
		m.beginKeys(m.array(x.A, x.B))
	case code.Step:
		m.nextKey(x.A)
	case code.Drop:
		m.Keys = m.Keys[:len(m.Keys)-1]
	case code.Next:
		return m.nextRecord()
	case code.Exit:
		m.exit(x.A)
	case code.Stop:
		return m.stop()
	default:
		return m.value(x)
	}
	return api.OK
}

// value does a step that leaves something on the stack.
func (m *Machine) value(x code.Ins) api.Errno {
	switch x.Op {
	case code.Num:
		m.push(cell.Of(m.program.Nums[x.A]))
	case code.Str:
		m.push(cell.Text(m.program.Strs[x.A]))
	case code.Get, code.Field, code.Elem:
		return m.read(m.placeOf(x))
	case code.Set, code.SetField, code.SetElem:
		return m.lay(x)
	case code.Binary:
		return m.binary(x.A)
	case code.Unary:
		m.unary(x.A)
	case code.Match:
		return m.match(x.A == 1)
	case code.In:
		m.push(cell.Bool(m.array(x.A, x.B).Has(m.pop().Str())))
	case code.Bool:
		m.push(cell.Bool(m.pop().True()))
	case code.Dup:
		m.Stack = append(m.Stack, m.Stack[len(m.Stack)-1])
	case code.Ref:
		m.Stack = append(m.Stack, Val{Ref: m.ref(x.A, x.B)})
	case code.Builtin:
		return m.builtin(x.A, x.B)
	case code.Sub:
		return m.replace(x.A == 1)
	case code.Hits:
		m.push(cell.Int(m.Hits))
	}
	return api.OK
}

func (m *Machine) push(c cell.Cell) {
	m.Stack = append(m.Stack, Val{C: c})
}

// made pushes a text that wasn't there ahead of this step.
func (m *Machine) made(s string) api.Errno {
	if len(s) > api.MaxText {
		return api.ErrSize
	}
	m.push(cell.Text(s))
	return api.OK
}

// pop takes the value that lies uppermost.
func (m *Machine) pop() cell.Cell {
	return m.take(1)[0].C
}

// take takes some things, the one that lies uppermost last. They are there until the next push.
func (m *Machine) take(n int) []Val {
	below := len(m.Stack) - n
	l := m.Stack[below:]
	m.Stack = m.Stack[:below]
	return l
}

// reckon: what two numbers are together, by 0 to 4: add, sub, mul, div, mod.
func reckon(way int, a, b num.Num) (num.Num, api.Errno) {
	switch way {
	case 0:
		return num.Add(a, b), api.OK
	case 1:
		return num.Sub(a, b), api.OK
	case 2:
		return num.Mul(a, b), api.OK
	case 3:
		return num.Div(a, b)
	}
	return num.Mod(a, b)
}
