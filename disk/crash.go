package disk

import (
	"bytes"
	"maps"
	"slices"
	"strings"

	"scribe/api"
)

// Put: a file has these bytes, safely, by nobody's deed.
func (d *Disk) Put(name, t string) api.Errno {
	if !Name(name) || len(t) > api.MaxFile {
		return api.ErrArg
	}
	// A new file: the one that had the name may be safe under another one,
	// and is to stay there as it was.
	held := []byte(t)
	f := &file{now: held, safe: held}
	name = strings.Clone(name)
	d.now[name], d.safe[name] = f, f
	return api.OK
}

// Crash: what is safe stays; of what was appended behind it as much as the numbers say, file by file; the names as they are, or as they were safe.
func (d *Disk) Crash(keeps []int, names bool) {
	if !names {
		d.now = d.safe
	}
	for i, name := range d.names() {
		keep := 0
		if i < len(keeps) {
			keep = max(keeps[i], 0)
		}
		d.now[name].crash(keep)
	}
	d.safe = maps.Clone(d.now)
	d.dead, d.left = false, -1
}

// crash leaves what is safe, and so many bytes at most of what was appended behind it.
func (f *file) crash(keep int) {
	if bytes.HasPrefix(f.now, f.safe) {
		more := f.now[len(f.safe):]
		f.safe = f.now[:len(f.safe)+min(keep, len(more))]
	}
	f.now = slices.Clip(f.safe)
}
