package array_test

import (
	"iter"
	"math"
	"slices"
	"strconv"
	"testing"
	"unsafe"

	"scribe/api"
	"scribe/array"
	"scribe/cell"
	"scribe/num"
	"scribe/pack"
)

const most = num.Most

// held is a key and its value.
type held struct {
	key string
	c   cell.Cell
}

func all(it iter.Seq2[string, cell.Cell]) []held {
	var l []held
	for key, c := range it {
		l = append(l, held{key, c})
	}
	return l
}

// values are some of each kind.
func values() []cell.Cell {
	return []cell.Cell{{}, cell.Of(0), cell.Of(1), cell.Of(-1500000), cell.Int(7), cell.Of(most), cell.Of(-most), cell.Text(""), cell.Text("abc"), cell.Text("10"), cell.Text("i1;(2:ab)\x00\n\xff"),
		cell.Input("10"), cell.Input(" -1.50\n"), cell.Input("0"), cell.Input("-0"), cell.Input("99999999999999999999"), cell.Input("x")}
}

// P8.1: the chapter's example.
func TestExample(t *testing.T) {
	var a array.Array
	a.Set("b", cell.Int(1))
	a.Set("a", cell.Int(2))
	c := a.At("c")
	a.Delete("b")
	a.Set("b", cell.Int(3))
	want := []held{{"a", cell.Int(2)}, {"c", cell.Cell{}}, {"b", cell.Int(3)}}
	if got := all(a.All()); c != (cell.Cell{}) || !slices.Equal(got, want) || !slices.Equal(a.Keys(), []string{"a", "c", "b"}) {
		t.Errorf("At(c) %v, All %v, Keys %q", c, got, a.Keys())
	}
}

// P8.1: the zero Array has no keys.
func TestZero(t *testing.T) {
	var a array.Array
	a.Delete("")
	a.Delete("x")
	if a.Len() != 0 || a.Has("") || a.Has("x") || len(a.Keys()) != 0 || len(all(a.All())) != 0 {
		t.Errorf("the zero Array has %q", a.Keys())
	}
	a.Clear()
	if a.Len() != 0 || len(a.Keys()) != 0 {
		t.Errorf("the zero Array, cleared, has %q", a.Keys())
	}
}

// P8.1: At lets a key come with the zero Cell, at the end, once.
func TestAt(t *testing.T) {
	var a array.Array
	for range 2 {
		for _, key := range []string{"", "b", "a"} {
			if c := a.At(key); c != (cell.Cell{}) || !a.Has(key) {
				t.Errorf("At(%q): %v, there %v", key, c, a.Has(key))
			}
		}
	}
	if a.Has("c") || a.Has("c") || a.Len() != 3 {
		t.Error("Has let a key come")
	}
	a.Set("", cell.Text("x"))
	if a.At("") != cell.Text("x") || a.At("b") != (cell.Cell{}) || !slices.Equal(a.Keys(), []string{"", "b", "a"}) {
		t.Errorf("%v", all(a.All()))
	}
}

// P8.1: Set of each kind of value, again and again, leaves a key in its place.
func TestSet(t *testing.T) {
	var a array.Array
	a.Set("first", cell.Int(1))
	a.Set("", cell.Int(2))
	a.Set("last", cell.Int(3))
	for _, c := range values() {
		a.Set("", c)
		if a.At("") != c || a.Len() != 3 || a.At("first") != cell.Int(1) || a.At("last") != cell.Int(3) || !slices.Equal(a.Keys(), []string{"first", "", "last"}) {
			t.Errorf("Set(%v): %v", c, all(a.All()))
		}
	}
}

// P8.1, P8.3: keys go at the beginning, in the middle, at the end, and all; they come again behind all others.
func TestDelete(t *testing.T) {
	for _, c := range []struct {
		gone string
		left []string
	}{{"a", []string{"b", "c"}}, {"b", []string{"a", "c"}}, {"c", []string{"a", "b"}}} {
		for _, again := range []func(a *array.Array){func(a *array.Array) { a.At(c.gone) }, func(a *array.Array) { a.Set(c.gone, cell.Cell{}) }} {
			var a array.Array
			for i, key := range []string{"a", "b", "c"} {
				a.Set(key, cell.Int(i))
			}
			a.Delete("none")
			a.Delete(c.gone)
			a.Delete(c.gone)
			if !slices.Equal(a.Keys(), c.left) || a.Has(c.gone) || a.Len() != 2 {
				t.Errorf("without %q: %q", c.gone, a.Keys())
			}
			again(&a)
			if !slices.Equal(a.Keys(), append(slices.Clone(c.left), c.gone)) || a.At(c.gone) != (cell.Cell{}) {
				t.Errorf("with %q again: %v", c.gone, all(a.All()))
			}
		}
	}
	var a array.Array
	a.At("x")
	a.Delete("x")
	if a.Len() != 0 || len(a.Keys()) != 0 {
		t.Errorf("without its only key: %q", a.Keys())
	}
	a.Set("y", cell.Int(1))
	a.Set("x", cell.Int(2))
	if !slices.Equal(all(a.All()), []held{{"y", cell.Int(1)}, {"x", cell.Int(2)}}) {
		t.Errorf("filled again: %v", all(a.All()))
	}
}

// P8.1, P8.3: all go, and come again in another order.
func TestClear(t *testing.T) {
	var a array.Array
	a.Set("a", cell.Int(1))
	a.Set("", cell.Int(2))
	a.Clear()
	if a.Len() != 0 || a.Has("a") || a.Has("") || len(a.Keys()) != 0 {
		t.Errorf("cleared: %q", a.Keys())
	}
	if c := a.At(""); c != (cell.Cell{}) {
		t.Errorf("what was cleared came again as %v", c)
	}
	a.At("a")
	if !slices.Equal(a.Keys(), []string{"", "a"}) {
		t.Errorf("filled again: %q", a.Keys())
	}
}

// P8.1: keys that are alike to a reader of numbers or letters are not the same.
func TestKeysAreBytes(t *testing.T) {
	keys := []string{"", " ", "1", "01", "1.0", "a", "A", "\x00", "\x00\x00", "\xff", "\u00e9", "e\u0301"}
	var a array.Array
	for i, key := range keys {
		a.Set(key, cell.Int(i))
	}
	for i, key := range keys {
		if a.At(key) != cell.Int(i) {
			t.Errorf("At(%q): %v", key, a.At(key))
		}
	}
	if !slices.Equal(a.Keys(), keys) {
		t.Errorf("Keys: %q", a.Keys())
	}
}

// P8.1, K7: an iterator is left at any time, and gone through again.
func TestGoneThrough(t *testing.T) {
	var a array.Array
	var want []held
	for i := range 5 {
		key := strconv.Itoa(9 - i)
		a.Set(key, cell.Int(i))
		want = append(want, held{key, cell.Int(i)})
	}
	it := a.All()
	for n := range 6 {
		var got []held
		for key, c := range it {
			if len(got) == n {
				break
			}
			got = append(got, held{key, c})
		}
		if !slices.Equal(got, want[:min(n, 5)]) {
			t.Errorf("left at %d: %v", n, got)
		}
	}
	for range 2 {
		if got := all(it); !slices.Equal(got, want) {
			t.Errorf("All: %v", got)
		}
	}
	for key := range it {
		for inner := range it {
			if inner == key {
				break
			}
		}
		if got := all(a.All()); !slices.Equal(got, want) {
			t.Errorf("All within All: %v", got)
		}
	}
	if got := all(a.All()); a.Len() != 5 || !slices.Equal(got, want) {
		t.Errorf("behind all that: %v", got)
	}
}

// P2: what was answered stays as it is, whatever is done with the array behind it (K3).
func TestAnswersStay(t *testing.T) {
	var a array.Array
	a.Set("a", cell.Int(1))
	a.Set("b", cell.Int(2))
	it, keys := a.All(), a.Keys()
	a.Set("a", cell.Int(3))
	a.Delete("b")
	a.At("c")
	if got := all(it); !slices.Equal(got, []held{{"a", cell.Int(1)}, {"b", cell.Int(2)}}) || !slices.Equal(keys, []string{"a", "b"}) {
		t.Errorf("All %v, Keys %q", got, keys)
	}
	keys = a.Keys()
	keys[0] = "x"
	if !slices.Equal(a.Keys(), []string{"a", "c"}) {
		t.Errorf("Keys: %q", a.Keys())
	}
}

// P2: no answer shares its bytes with what was handed in, or with another answer (K3).
func TestNothingShared(t *testing.T) {
	key, c := "a key", cell.Text("a text")
	var a array.Array
	a.Set(key, c)
	texts := []string{key, c.S, a.At(key).S, a.At(key).S, a.Keys()[0], a.Keys()[0]}
	it := a.All()
	for range 2 {
		for k, v := range it {
			texts = append(texts, k, v.S)
		}
	}
	var w pack.Writer
	a.Write(&w)
	s := w.Bytes()
	b, _ := array.Read(pack.Read(s))
	texts = append(texts, b.Keys()[0], b.At(key).S, s)
	for i, x := range texts {
		for j, y := range texts {
			if i != j && unsafe.StringData(x) == unsafe.StringData(y) {
				t.Errorf("texts %d and %d share their bytes", i, j)
			}
		}
	}
}

// P1: many keys, which come and go at either end, take no long time.
func TestManyKeys(t *testing.T) {
	const many = 200000
	var a array.Array
	for i := range many {
		a.Set(strconv.Itoa(i), cell.Int(i))
	}
	for i := range many / 2 {
		a.Delete(strconv.Itoa(i))
		a.Delete(strconv.Itoa(many - 1 - i/2))
		a.At(strconv.Itoa(i))
	}
	if a.Len() != many*3/4 || a.Keys()[0] != strconv.Itoa(many/2) {
		t.Errorf("%d keys, the first %q", a.Len(), a.Keys()[0])
	}
	var w pack.Writer
	a.Write(&w)
	b, e := array.Read(pack.Read(w.Bytes()))
	if e != api.OK || !slices.Equal(all(a.All()), all(b.All())) {
		t.Errorf("read again: %d", e)
	}
}

// P1: what isn't a value lets nothing panic either.
func TestWhatIsNoneEnds(t *testing.T) {
	for _, c := range []cell.Cell{{Kind: -1, N: 1, S: "x"}, {Kind: 4}, {N: 1, S: "x"}, {Kind: 1, N: math.MinInt64, S: "x"}, {Kind: 2, N: math.MaxInt64}, {Kind: 3, S: "x"}} {
		var a array.Array
		a.Set("", c)
		a.At("")
		var w pack.Writer
		a.Write(&w)
		array.Read(pack.Read(w.Bytes()))
	}
}
