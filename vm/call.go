package vm

import (
	"scribe/api"
	"scribe/array"
)

// call goes on in a function, with so many things that it is handed.
func (m *Machine) call(function, given int) api.Errno {
	if len(m.Frames) == MaxCalls {
		return api.ErrDeep
	}
	f := m.program.Funcs[function]
	locals := make([]Val, len(f.Arrays))
	copy(locals, m.take(given))
	frame := Frame{Fn: function, Ret: m.PC, Base: len(m.Stack), Iters: len(m.Keys), Locals: locals}
	for i := given; i < len(locals); i++ {
		if f.Arrays[i] {
			m.Last++
			m.Arrays[m.Last] = &array.Array{}
			locals[i].Ref = m.Last
			frame.Own = append(frame.Own, m.Last)
		}
	}
	m.Frames = append(m.Frames, frame)
	m.PC = f.Entry
	return api.OK
}

// giveBack goes on behind a call, whose value lies uppermost. What the call alone had goes.
func (m *Machine) giveBack() {
	value := m.pop()
	frame := m.frame()
	for _, n := range frame.Own {
		m.clear(m.Arrays[n])
		delete(m.Arrays, n)
	}
	m.Last -= len(frame.Own)
	m.PC = frame.Ret
	m.Stack, m.Keys = m.Stack[:frame.Base], m.Keys[:frame.Iters]
	m.Frames = m.Frames[:len(m.Frames)-1]
	m.push(value)
}
