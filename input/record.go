package input

import (
	"slices"
	"strings"

	"scribe/api"
	"scribe/cell"
)

// Record is a text, and its fields. The list of fields is never changed, but another one laid in its place, so that a copy of a Record stays as it is.
type Record struct {
	text   string
	fields []cell.Cell
}

// Load: a text, and its fields by what parts them.
func (r *Record) Load(s, sep string) api.Errno {
	parts, e := Split(s, sep, false)
	if e != api.OK {
		return e
	}
	fields := make([]cell.Cell, len(parts))
	for i, part := range parts {
		fields[i] = cell.Input(part)
	}
	r.text, r.fields = strings.Clone(s), fields
	return api.OK
}

// Count: how many fields there are.
func (r *Record) Count() int {
	return len(r.fields)
}

// Get: field number i; 0 is all of it.
func (r *Record) Get(i int) (cell.Cell, api.Errno) {
	if e := checkNumber(i); e != api.OK {
		return cell.Cell{}, e
	}
	switch {
	case i == 0:
		return cell.Input(r.text), api.OK
	case i > len(r.fields):
		return cell.Cell{}, api.OK
	}
	return clone(r.fields[i-1]), api.OK
}

// checkNumber: may there be a field of this number, or so many fields?
func checkNumber(i int) api.Errno {
	switch {
	case i < 0:
		return api.ErrRun
	case i > api.MaxField:
		return api.ErrSize
	}
	return api.OK
}

// Resize: there are so many fields.
func (r *Record) Resize(n int, ofs string) api.Errno {
	if e := checkNumber(n); e != api.OK {
		return e
	}
	return r.lay(r.sized(n), ofs)
}

// Set: field number i is this; of 0 all of it, parted anew.
func (r *Record) Set(i int, c cell.Cell, sep, ofs string) api.Errno {
	if e := checkNumber(i); e != api.OK {
		return e
	}
	if i == 0 {
		return r.Load(c.Str(), sep)
	}
	fields := r.sized(max(i, len(r.fields)))
	fields[i-1] = clone(c)
	return r.lay(fields, ofs)
}

// sized: a new list of so many fields, the first ones those that there are.
func (r *Record) sized(n int) []cell.Cell {
	fields := make([]cell.Cell, n)
	copy(fields, r.fields)
	return fields
}

// lay: these are the fields, and the text is made of them, if it isn't too long.
func (r *Record) lay(fields []cell.Cell, ofs string) api.Errno {
	text, ok := join(fields, ofs)
	if !ok {
		return api.ErrSize
	}
	r.text, r.fields = text, fields
	return api.OK
}

// join: fields as a text; false: it is too long.
func join(fields []cell.Cell, ofs string) (string, bool) {
	var text []byte
	for i, c := range fields {
		if i > 0 {
			text = append(text, ofs...)
		}
		text = append(text, c.Str()...)
		if len(text) > api.MaxText {
			return "", false
		}
	}
	return string(text), true
}

// Text: all of it.
func (r *Record) Text() string {
	return strings.Clone(r.text)
}

// Fields: the fields.
func (r *Record) Fields() []cell.Cell {
	return cloneAll(r.fields)
}

// Put: a text and fields that needn't be its.
func (r *Record) Put(s string, fields []cell.Cell) {
	r.text, r.fields = strings.Clone(s), cloneAll(fields)
}

// clone: a value that shares no memory with the one that is handed in.
func clone(c cell.Cell) cell.Cell {
	c.S = strings.Clone(c.S)
	return c
}

func cloneAll(fields []cell.Cell) []cell.Cell {
	l := slices.Clone(fields)
	for i, c := range l {
		l[i] = clone(c)
	}
	return l
}
