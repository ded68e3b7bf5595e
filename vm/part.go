package vm

import (
	"scribe/api"
	"scribe/cell"
	"scribe/input"
	"scribe/num"
)

// The parts of a run.
const (
	beginPart = iota
	recordPart
	endPart
	overPart
)

// stop ends a part.
func (m *Machine) stop() api.Errno {
	if m.Part == endPart {
		m.end(0, api.OK)
		return api.OK
	}
	return m.nextRecord()
}

// end: the program is over. Of all else nothing is needed any more.
func (m *Machine) end(status int, e api.Errno) {
	m.State = State{Part: overPart, Status: status, Err: e, Steps: m.Steps}
}

// exit ends the program at once, perhaps with a value.
func (m *Machine) exit(values int) {
	status := 0
	if values > 0 {
		// uint8 counts modulo 256, below 0 too.
		status = int(uint8(m.pop().Num().Whole()))
	}
	m.end(status, api.OK)
}

// nextRecord goes on with the next record, or with the end, if there is none.
func (m *Machine) nextRecord() api.Errno {
	m.Stack, m.Keys = m.Stack[:0], nil
	for ; m.File < len(m.in); m.File++ {
		text, next, ok := input.Next(m.in[m.File].Text, m.At)
		if ok {
			m.At = next
			m.Part, m.PC = recordPart, m.program.Record
			return m.beginRecord(text)
		}
		m.At = 0
	}
	m.Part, m.PC = endPart, m.program.End
	return api.OK
}

func (m *Machine) beginRecord(text string) api.Errno {
	m.Globals[filename] = cell.Text(m.in[m.File].Name)
	m.Globals[nr] = cell.Of(num.Add(m.Globals[nr].Num(), num.One))
	return m.load(text)
}

// load: this is the record from now on.
func (m *Machine) load(text string) api.Errno {
	if len(text) > api.MaxText {
		return api.ErrSize
	}
	return m.Record.Load(text, m.text(fs))
}
