package array

import (
	"scribe/api"
	"scribe/cell"
	"scribe/num"
	"scribe/pack"
)

// Write: as a list of keys and values.
func (a *Array) Write(w *pack.Writer) {
	w.Open()
	for e := range a.each() {
		w.Text(e.key)
		Put(w, e.value)
	}
	w.Close()
}

// Put: a value, as its kind and what it is.
func Put(w *pack.Writer, c cell.Cell) {
	w.Int(c.Kind)
	switch c.Kind {
	case cell.Num:
		w.Int(int(c.N))
	case cell.Str, cell.Both:
		w.Text(c.S)
	}
}

// Get: a value.
func Get(r *pack.Reader) (cell.Cell, api.Errno) {
	c := cell.Cell{Kind: r.Int()}
	switch c.Kind {
	case cell.Num:
		c.N = num.Num(r.Int())
	case cell.Str:
		c.S = r.Text(api.MaxText)
	case cell.Both:
		// The text says the number, so it isn't written.
		c.S = r.Text(api.MaxText)
		c.N, _ = num.Looks(c.S)
	}
	if r.Err() != api.OK {
		return cell.Cell{}, r.Err()
	}
	if !cell.Good(c) {
		return cell.Cell{}, api.ErrForm
	}
	return c, api.OK
}

// Read: what Write wrote.
func Read(r *pack.Reader) (*Array, api.Errno) {
	a := &Array{}
	r.Open()
	for r.More() {
		if e := a.readEntry(r); e != api.OK {
			return nil, e
		}
	}
	r.Close()
	if r.Err() != api.OK {
		return nil, r.Err()
	}
	return a, api.OK
}

// readEntry takes a key and its value, which come; ErrForm, if the key is there already.
func (a *Array) readEntry(r *pack.Reader) api.Errno {
	key := r.Text(api.MaxText)
	c, e := Get(r)
	if e != api.OK {
		return e
	}
	if a.Has(key) {
		return api.ErrForm
	}
	a.Set(key, c)
	return api.OK
}
