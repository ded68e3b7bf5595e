package vm

import (
	"scribe/api"
)

// replace makes a text with the first match of a pattern replaced, or all of them. If there is none, the value stays what it is.
func (m *Machine) replace(all bool) api.Errno {
	l := m.take(3)
	was := l[0].C
	p, e := pattern(l[1].C)
	if e != api.OK {
		return e
	}
	s, with := was.Str(), parts(l[2].C.Str())
	var out []byte
	behind := 0
	m.Hits = 0
	for from, to := range p.All(s) {
		out = append(out, s[behind:from]...)
		out = with.insert(out, s[from:to])
		if len(out) > api.MaxText {
			return api.ErrSize
		}
		behind = to
		m.Hits++
		if !all {
			break
		}
	}
	if m.Hits == 0 {
		m.push(was)
		return api.OK
	}
	return m.made(string(out) + s[behind:])
}

// replacement is what stands for a match: parts, and between each two of them what was met.
type replacement [][]byte

// parts: those of the text that says them.
func parts(s string) replacement {
	r := replacement{nil}
	for i := 0; i < len(s); i++ {
		if s[i] == '&' {
			r = append(r, nil)
			continue
		}
		if isEscape(s[i:]) {
			i++
		}
		last := len(r) - 1
		r[last] = append(r[last], s[i])
	}
	return r
}

// isEscape: does a text begin with a backslash that lets the byte behind it stand for itself?
func isEscape(s string) bool {
	return len(s) > 1 && s[0] == '\\' && (s[1] == '\\' || s[1] == '&')
}

// insert puts it behind bytes, as far as a text has room.
func (r replacement) insert(out []byte, met string) []byte {
	for i, part := range r {
		if i > 0 {
			out = append(out, met...)
		}
		out = append(out, part...)
		if len(out) > api.MaxText {
			break
		}
	}
	return out
}
