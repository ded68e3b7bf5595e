package vm

import (
	"slices"
	"strings"

	"scribe/array"
	"scribe/cell"
	"scribe/code"
)

// each: a list of what is made of each thing of one.
func each[T any](l []T, own func(T) T) []T {
	out := slices.Clone(l)
	for i, x := range out {
		out[i] = own(x)
	}
	return out
}

func copyCell(c cell.Cell) cell.Cell {
	c.S = strings.Clone(c.S)
	return c
}

func copyVal(v Val) Val {
	v.C = copyCell(v.C)
	return v
}

func copyFrame(f Frame) Frame {
	f.Locals = each(f.Locals, copyVal)
	f.Own = slices.Clone(f.Own)
	return f
}

// copyState: one that shares nothing with the one that is handed in.
func copyState(s State) State {
	s.Stack = each(s.Stack, copyVal)
	s.Frames = each(s.Frames, copyFrame)
	s.Keys = copyKeys(s.Keys)
	s.Globals = each(s.Globals, copyCell)
	s.Opened = each(s.Opened, strings.Clone)
	s.Record.Put(s.Record.Text(), s.Record.Fields())
	arrays := map[int]*array.Array{}
	for n, a := range s.Arrays {
		arrays[n] = copyArray(a)
	}
	s.Arrays = arrays
	return s
}

func copyArray(a *array.Array) *array.Array {
	out := &array.Array{}
	for key, c := range a.All() {
		out.Set(key, c)
	}
	return out
}

func copyKeys(l []Keys) []Keys {
	var out []Keys
	for _, k := range l {
		out = append(out, Keys{L: shared(out, each(k.L, strings.Clone)), At: k.At})
	}
	return out
}

// shared: keys that nobody changes, as they lie among those that are gone through already, if they do: calls within one another may go through the same ones again and again.
func shared(l []Keys, keys []string) []string {
	for _, k := range slices.Backward(l) {
		if slices.Equal(k.L, keys) {
			return k.L
		}
	}
	return keys
}

func copyProgram(p *code.Program) *code.Program {
	out := *p
	out.Code = slices.Clone(p.Code)
	out.Nums = slices.Clone(p.Nums)
	out.Strs = each(p.Strs, strings.Clone)
	out.Globals = each(p.Globals, strings.Clone)
	out.Arrays = slices.Clone(p.Arrays)
	out.Funcs = each(p.Funcs, func(f code.Func) code.Func {
		f.Arrays = slices.Clone(f.Arrays)
		return f
	})
	return &out
}

func copyFiles(in []File) []File {
	return each(in, func(f File) File {
		return File{Name: strings.Clone(f.Name), Text: strings.Clone(f.Text)}
	})
}
