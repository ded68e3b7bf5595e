package disk

import (
	"maps"
	"strings"

	"scribe/api"
)

// Append: bytes behind those of a file, which is made if it isn't there.
func (d *Disk) Append(name, t string) api.Errno {
	if d.dead {
		return api.ErrDead
	}
	if !Name(name) {
		return api.ErrArg
	}
	if e := d.room(name, len(t)); e != api.OK {
		return e
	}
	// What a dying disk was writing stands there as well: it is for Crash to
	// say how much of it is kept.
	write := func() { d.write(name, t) }
	return d.deed(write, write)
}

// Truncate: a file has its first bytes alone.
func (d *Disk) Truncate(name string, n int) api.Errno {
	f, e := d.find(name)
	if e != api.OK {
		return e
	}
	if n < 0 || n > len(f.now) {
		return api.ErrArg
	}
	return d.deed(func() { f.now = f.now[:n:n] }, nothing)
}

// Sync: a file's bytes are safe.
func (d *Disk) Sync(name string) api.Errno {
	f, e := d.find(name)
	if e != api.OK {
		return e
	}
	return d.deed(func() { f.safe = f.now }, nothing)
}

// SyncDir: the names are safe.
func (d *Disk) SyncDir() api.Errno {
	if d.dead {
		return api.ErrDead
	}
	return d.deed(func() { d.safe = maps.Clone(d.now) }, nothing)
}

// Rename: a file has another name; one of that name is gone.
func (d *Disk) Rename(from, to string) api.Errno {
	f, e := d.find(from)
	if e != api.OK {
		return e
	}
	if !Name(to) {
		return api.ErrArg
	}
	return d.deed(func() {
		delete(d.now, from) // ahead of the other: the two names may be one
		d.now[strings.Clone(to)] = f
	}, nothing)
}

// Remove: a file is gone.
func (d *Disk) Remove(name string) api.Errno {
	if _, e := d.find(name); e != api.OK {
		return e
	}
	return d.deed(func() { delete(d.now, name) }, nothing)
}

// deed does what it is handed as do; of one that the disk dies at, dying is done in its place.
func (d *Disk) deed(do, dying func()) api.Errno {
	if d.left == 0 {
		d.dead = true
		dying()
		return api.ErrDead
	}
	if d.left > 0 {
		d.left--
	}
	do()
	return api.OK
}

// nothing is what a dying disk does of most deeds.
func nothing() {}

// room: is there room for so many bytes behind a file's?
func (d *Disk) room(name string, n int) api.Errno {
	has := 0
	if f := d.now[name]; f != nil {
		has = len(f.now)
	} else if len(d.now) >= api.MaxFiles {
		return api.ErrFull
	}
	if n > d.quota-d.Used() {
		return api.ErrFull
	}
	if n > api.MaxFile-has {
		return api.ErrBig
	}
	return api.OK
}

// write puts bytes behind a file's, which it makes if it isn't there.
func (d *Disk) write(name, t string) {
	f := d.now[name]
	if f == nil {
		f = &file{}
		d.now[strings.Clone(name)] = f
	}
	f.now = append(f.now, t...)
}
