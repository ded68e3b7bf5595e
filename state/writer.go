package state

import (
	"maps"
	"slices"

	"scribe/array"
	"scribe/cell"
	"scribe/pack"
	"scribe/vm"
)

// writer writes a state. What the program and the rest say isn't written: the numbers of the arrays that calls own, and empty arrays.
type writer struct {
	pack.Writer
	known map[vm.Val]int // values that were written, by how many others were ahead of them
}

func (w *writer) state(s vm.State) {
	w.Open()
	for _, n := range ints(&s) {
		w.Int(*n)
	}
	for _, n := range others(&s) {
		w.Int(n)
	}
	w.texts(s.Opened)
	w.cells(s.Globals)
	w.Text(s.Record.Text())
	w.cells(s.Record.Fields())
	w.values(s.Stack)
	w.frames(s.Frames)
	w.keys(s.Keys)
	w.arrays(s.Arrays)
	w.Close()
}

func (w *writer) texts(l []string) {
	w.Open()
	for _, s := range l {
		w.Text(s)
	}
	w.Close()
}

// values writes them as a row; of one that was written already only which one it is.
func (w *writer) values(l []vm.Val) {
	var b builder
	for _, v := range l {
		if n, ok := w.known[v]; ok {
			b.number(aKnown, n)
			continue
		}
		b.add(v)
		if v != (vm.Val{}) {
			w.known[v] = len(w.known)
		}
	}
	w.Text(string(b.kinds))
	w.Text(string(b.numbers))
	w.texts(b.texts)
}

func (w *writer) cells(l []cell.Cell) {
	vals := make([]vm.Val, len(l))
	for i, c := range l {
		vals[i].C = c
	}
	w.values(vals)
}

func (w *writer) frames(l []vm.Frame) {
	w.Open()
	for _, f := range l {
		w.Int(f.Fn)
		w.Int(f.Ret)
		w.Int(f.Base)
		w.Int(f.Iters)
		w.values(f.Locals)
	}
	w.Close()
}

// keys writes those that are gone through; of such as others go through, too, only which ones these are.
func (w *writer) keys(l []vm.Keys) {
	w.Open()
	for i, k := range l {
		w.Int(k.At)
		same := slices.IndexFunc(l[:i], func(other vm.Keys) bool {
			return slices.Equal(other.L, k.L)
		})
		w.Int(same)
		if same < 0 {
			w.texts(k.L)
		}
	}
	w.Close()
}

// arrays writes those that have keys, by rising numbers.
func (w *writer) arrays(m map[int]*array.Array) {
	w.Open()
	for _, n := range slices.Sorted(maps.Keys(m)) {
		if m[n].Len() > 0 {
			w.Int(n)
			w.array(m[n])
		}
	}
	w.Close()
}

func (w *writer) array(a *array.Array) {
	var l []cell.Cell
	for _, c := range a.All() {
		l = append(l, c)
	}
	w.texts(a.Keys())
	w.cells(l)
}
