package array_test

import (
	"slices"
	"strconv"
	"testing"

	"scribe/array"
	"scribe/cell"
	"scribe/pack"
)

// model is the chapter's words: keys and values in a row.
type model []held

func (m *model) place(key string) int {
	return slices.IndexFunc(*m, func(h held) bool { return h.key == key })
}

func (m *model) at(key string) cell.Cell {
	i := m.place(key)
	if i < 0 {
		*m = append(*m, held{key: key})
		return cell.Cell{}
	}
	return (*m)[i].c
}

func (m *model) set(key string, c cell.Cell) {
	m.at(key)
	(*m)[m.place(key)].c = c
}

func (m *model) remove(key string) {
	*m = slices.DeleteFunc(*m, func(h held) bool { return h.key == key })
}

// spelt: as bytes, by layer 1's words.
func (m *model) spelt() string {
	s := "("
	for _, h := range *m {
		s += strconv.Itoa(len(h.key)) + ":" + h.key + speltValue(h.c)
	}
	return s + ")"
}

func speltValue(c cell.Cell) string {
	text := strconv.Itoa(len(c.S)) + ":" + c.S
	return "i" + strconv.Itoa(c.Kind) + ";" + []string{"", "i" + strconv.Itoa(int(c.N)) + ";", text, text}[c.Kind]
}

// keys are those that the rows of calls speak of.
var keys = []string{"", "a", "b", "10"}

// both is an array and its model.
type both struct {
	a array.Array
	m model
}

// do: call number n of 13; 0 to 3 At, 4 to 7 Set, 8 to 11 Delete, 12 Clear.
func (b *both) do(t *testing.T, n int, c cell.Cell) {
	t.Helper()
	key := keys[n%4]
	switch n / 4 {
	case 0:
		if got, want := b.a.At(key), b.m.at(key); got != want {
			t.Fatalf("At(%q): %v, want %v", key, got, want)
		}
	case 1:
		b.a.Set(key, c)
		b.m.set(key, c)
	case 2:
		b.a.Delete(key)
		b.m.remove(key)
	default:
		b.a.Clear()
		b.m = nil
	}
}

// check: does the array answer what its model says?
func (b *both) check(t *testing.T, row []int) {
	t.Helper()
	var names []string
	for _, h := range b.m {
		names = append(names, h.key)
	}
	if b.a.Len() != len(b.m) || !slices.Equal(b.a.Keys(), names) || !slices.Equal(all(b.a.All()), b.m) {
		t.Fatalf("behind %v: %d keys, %q, %v, want %v", row, b.a.Len(), b.a.Keys(), all(b.a.All()), b.m)
	}
	for _, key := range append(slices.Clone(keys), "c") {
		if b.a.Has(key) != (b.m.place(key) >= 0) {
			t.Fatalf("behind %v: Has(%q): %v", row, key, b.a.Has(key))
		}
	}
	var w pack.Writer
	b.a.Write(&w)
	if w.Bytes() != b.m.spelt() {
		t.Fatalf("behind %v: Write: %q, want %q", row, w.Bytes(), b.m.spelt())
	}
}

// P8.1, P8.3: each row of five calls.
func TestEachRow(t *testing.T) {
	const calls, length = 13, 5
	rows := 1
	for range length {
		rows *= calls
	}
	row := make([]int, length)
	for n := range rows {
		var b both
		for i := range row {
			row[i] = n % calls
			n /= calls
			b.do(t, row[i], cell.Int(i))
		}
		b.check(t, row)
	}
}

// draws are numbers of a rule, so that each run has the same ones.
type draws uint64

func (d *draws) next(below int) int {
	*d = *d*6364136223846793005 + 1442695040888963407
	return int(uint64(*d)>>33) % below
}

// P8.1, P8.3: long rows of calls, with each kind of value.
func TestLongRows(t *testing.T) {
	var d draws
	l := values()
	for range 200 {
		var b both
		for range 100 {
			n := d.next(12)
			if d.next(40) == 0 {
				n = 12
			}
			b.do(t, n, l[d.next(len(l))])
			b.check(t, []int{n})
		}
	}
}
