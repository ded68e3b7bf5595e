// Package pack is layer 1: numbers, texts and lists as bytes, each in one way alone. See shared/doc/01-pack.md.
package pack

import (
	"strconv"
)

// MaxDeep is how many lists may be open at once.
const MaxDeep = 60

// Writer gathers bytes. The zero Writer has none.
type Writer struct {
	bytes []byte
}

// Int: the sign i, the number, a semicolon.
func (w *Writer) Int(n int) {
	w.bytes = append(w.bytes, 'i')
	w.bytes = strconv.AppendInt(w.bytes, int64(n), 10)
	w.bytes = append(w.bytes, ';')
}

// Text: the length, a colon, the bytes.
func (w *Writer) Text(s string) {
	w.bytes = strconv.AppendInt(w.bytes, int64(len(s)), 10)
	w.bytes = append(w.bytes, ':')
	w.bytes = append(w.bytes, s...)
}

// Open: a list begins.
func (w *Writer) Open() {
	w.bytes = append(w.bytes, '(')
}

// Close: a list ends.
func (w *Writer) Close() {
	w.bytes = append(w.bytes, ')')
}

// Bytes: what was gathered.
func (w *Writer) Bytes() string {
	return string(w.bytes)
}
