// Package sum is layer 2: sums of bytes, Adler's. See shared/doc/02-sum.md.
package sum

import (
	"scribe/api"
)

// Mod is the modulus: the greatest prime below 2^16.
const Mod = 65521

// block is how many bytes are added ahead of a reduction: with so many neither half comes near to 2^64.
const block = 1 << 20

const hexDigits = "0123456789abcdef"

// Sum is that of bytes, which may go on. Both halves are below Mod.
type Sum struct {
	a, b uint64
}

// New: of no bytes.
func New() Sum {
	return Sum{a: 1}
}

// Add: of the bytes so far and these.
func (s Sum) Add(t string) Sum {
	for len(t) > 0 {
		n := min(len(t), block)
		s = s.addBlock(t[:n])
		t = t[n:]
	}
	return s
}

// Value: as a number.
func (s Sum) Value() uint32 {
	return uint32(s.b<<16 | s.a)
}

// Of: of bytes.
func Of(t string) uint32 {
	return New().Add(t).Value()
}

// Join: of two texts' sums, the second of so many bytes, that of both one behind the other.
func Join(x, y uint32, n int) uint32 {
	if n < 0 {
		return x
	}
	xs, ys := halves(x), halves(y)
	// Each of the second text's n values of A grows by what the first one added to A. Mod is added for a less one of 0.
	grown := xs.a + Mod - 1
	return Sum{
		a: (grown + ys.a) % Mod,
		b: (xs.b + ys.b + uint64(n)%Mod*grown) % Mod,
	}.Value()
}

// Hex: eight digits.
func Hex(x uint32) string {
	var h [8]byte
	for i := range h {
		h[i] = hexDigits[x>>(28-4*i)&15]
	}
	return string(h[:])
}

// Check: is that the sum of these bytes, as eight digits?
func Check(hex, t string) api.Errno {
	switch {
	case !isHex(hex):
		return api.ErrForm
	case hex != Hex(Of(t)):
		return api.ErrSum
	}
	return api.OK
}

// addBlock adds at most block bytes.
func (s Sum) addBlock(t string) Sum {
	for i := range len(t) {
		s.a += uint64(t[i])
		s.b += s.a
	}
	return Sum{a: s.a % Mod, b: s.b % Mod}
}

func halves(x uint32) Sum {
	return Sum{a: uint64(x & 0xffff), b: uint64(x >> 16)}
}

func isHex(s string) bool {
	for i := range len(s) {
		if !isHexDigit(s[i]) {
			return false
		}
	}
	return len(s) == 8
}

func isHexDigit(c byte) bool {
	return '0' <= c && c <= '9' || 'a' <= c && c <= 'f'
}
