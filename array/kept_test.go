package array

import (
	"testing"
	"unsafe"

	"scribe/cell"
)

// P2: an array keeps none of the memory that it is handed (K3).
func TestNothingKept(t *testing.T) {
	key, c := "a key", cell.Text("a text")
	var set, asked Array
	set.Set(key, c)
	set.Set(key, c)
	asked.At(key)
	if e := set.first; unsafe.StringData(e.key) == unsafe.StringData(key) || unsafe.StringData(e.value.S) == unsafe.StringData(c.S) {
		t.Error("Set keeps what it is handed")
	}
	if unsafe.StringData(asked.first.key) == unsafe.StringData(key) {
		t.Error("At keeps its key")
	}
	for _, a := range []*Array{&set, &asked} {
		for k := range a.entries {
			if unsafe.StringData(k) == unsafe.StringData(key) {
				t.Error("the map keeps a key")
			}
		}
	}
}
