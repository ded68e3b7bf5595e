package vm

import (
	"scribe/api"
	"scribe/array"
	"scribe/cell"
)

// globalArray: the number of the array that variable i of all is. Those that calls own have the numbers behind all variables'.
func globalArray(i int) int {
	return i + 1
}

// ref: the number of the array that a variable is.
func (m *Machine) ref(at, of int) int {
	if of == 1 {
		return m.frame().Locals[at].Ref
	}
	return globalArray(at)
}

// array: the one that a variable is.
func (m *Machine) array(at, of int) *array.Array {
	return m.Arrays[m.ref(at, of)]
}

// come counts a key that comes into an array, if it isn't there; ErrSize: there are too many.
func (m *Machine) come(a *array.Array, key string) api.Errno {
	if a.Has(key) {
		return api.OK
	}
	if m.cells >= MaxCells {
		return api.ErrSize
	}
	m.cells++
	return api.OK
}

// remove takes a key out of an array, if it is there.
func (m *Machine) remove(a *array.Array, key string) {
	m.cells -= a.Len()
	a.Delete(key)
	m.cells += a.Len()
}

// clear takes all keys out of an array.
func (m *Machine) clear(a *array.Array) {
	m.cells -= a.Len()
	a.Clear()
}

// beginKeys begins to go through the keys that an array has now.
func (m *Machine) beginKeys(a *array.Array) {
	m.Keys = append(m.Keys, Keys{L: shared(m.Keys, a.Keys())})
}

// nextKey pushes the next key; it leads on at a step, if there is none.
func (m *Machine) nextKey(behind int) {
	k := &m.Keys[len(m.Keys)-1]
	if k.At >= len(k.L) {
		m.PC = behind
		return
	}
	m.push(cell.Text(k.L[k.At]))
	k.At++
}
