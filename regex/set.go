package regex

// Set is bytes: byte c is bit c modulo 64 of word c / 64.
type Set [4]uint64

// Has: is a byte in it?
func (s Set) Has(c byte) bool {
	return s[c/64]>>(c%64)&1 == 1
}

// With: the set with a byte more.
func (s Set) With(c byte) Set {
	s[c/64] |= 1 << (c % 64)
	return s
}

// Not: all other bytes.
func (s Set) Not() Set {
	for i := range s {
		s[i] = ^s[i]
	}
	return s
}

// or: what is in one of both.
func (s Set) or(t Set) Set {
	for i := range s {
		s[i] |= t[i]
	}
	return s
}
