package vm

import (
	"slices"

	"scribe/api"
	"scribe/cell"
	"scribe/code"
	"scribe/format"
)

// What a print says of the file's name.
const (
	unnamed = iota
	emptied
	appended
)

// print does a print or a printf.
func (m *Machine) print(x code.Ins) api.Errno {
	name := Stdout
	if x.B != unnamed {
		name = m.pop().Str()
	}
	text, e := m.printed(x.Op, cells(m.take(x.A)))
	if e != api.OK {
		return e
	}
	return m.send(name, text, x.B == appended)
}

// cells: those of values.
func cells(l []Val) []cell.Cell {
	out := make([]cell.Cell, len(l))
	for i, v := range l {
		out[i] = v.C
	}
	return out
}

// printed: the text that goes out.
func (m *Machine) printed(op int, l []cell.Cell) (string, api.Errno) {
	if op == code.Printf {
		return formatted(l)
	}
	between := m.text(ofs)
	var out []byte
	for i, c := range l {
		if i > 0 {
			out = append(out, between...)
		}
		out = append(out, c.Str()...)
		if len(out) > api.MaxText {
			return "", api.ErrSize
		}
	}
	out = append(out, m.text(ors)...)
	if len(out) > api.MaxText {
		return "", api.ErrSize
	}
	return string(out), api.OK
}

// formatted: values by the format that the first one is.
func formatted(l []cell.Cell) (string, api.Errno) {
	s, e := format.Print(l[0].Str(), l[1:])
	if e != api.OK {
		return "", api.ErrRun
	}
	return s, api.OK
}

// send lets a text go to a file, which is emptied, if this is the first one that goes there, and isn't to stand behind what is there.
func (m *Machine) send(name, text string, behind bool) api.Errno {
	at, opened := slices.BinarySearch(m.Opened, name)
	if !opened {
		if !behind {
			if e := m.answered(m.out.Begin(name)); e != api.OK {
				return e
			}
		}
		m.Opened = slices.Insert(m.Opened, at, name)
	}
	return m.answered(m.out.Append(name, text))
}

// answered: what the output's answer is for the program. One that isn't for the program stops the machine.
func (m *Machine) answered(e api.Errno) api.Errno {
	switch e {
	case api.OK:
		return api.OK
	case api.ErrArg:
		return api.ErrRun
	}
	m.stopped = e
	return e
}

// takeAll fills up an output: one without a function takes all that would go there.
func takeAll(out Output) Output {
	if out.Begin == nil {
		out.Begin = func(string) api.Errno { return api.OK }
	}
	if out.Append == nil {
		out.Append = func(string, string) api.Errno { return api.OK }
	}
	return out
}
