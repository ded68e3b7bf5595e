package sum_test

import (
	"hash/adler32"
	"math"
	"math/big"
	"strconv"
	"strings"
	"testing"

	"scribe/api"
	"scribe/sum"
)

// numbers is a row of numbers that has no pattern to speak of, the same each time.
type numbers uint64

func (n *numbers) next(below int) int {
	*n = *n*6364136223846793005 + 1442695040888963407
	return int(uint64(*n)>>33) % below
}

func (n *numbers) text(size int) string {
	b := make([]byte, size)
	for i := range b {
		b[i] = byte(n.next(256))
	}
	return string(b)
}

// plain is the chapter's rule, byte by byte.
func plain(t string) uint32 {
	a, b := uint32(1), uint32(0)
	for i := range len(t) {
		a = (a + uint32(t[i])) % 65521
		b = (b + a) % 65521
	}
	return b*65536 + a
}

// P2.1.
func TestOf(t *testing.T) {
	if sum.Mod != 65521 {
		t.Errorf("Mod: %d", sum.Mod)
	}
	for _, c := range []struct {
		s    string
		want uint32
	}{
		{"", 1},
		{"\x00", 0x00010001},
		{"a", 0x00620062},
		{"ab", 0x012600c4},
		{"Wikipedia", 0x11e60398},
		{"\xff", 0x01000100},
		{"\x00\x00\x00", 0x00030001},
	} {
		if got := sum.Of(c.s); got != c.want {
			t.Errorf("Of(%q): %x, want %x", c.s, got, c.want)
		}
	}
	row := numbers(1)
	for size := range 700 {
		s := row.text(size)
		if sum.Of(s) != plain(s) || sum.Of(s) != adler32.Checksum([]byte(s)) {
			t.Fatalf("Of %d bytes: %x, want %x", size, sum.Of(s), plain(s))
		}
	}
}

// P2.1: of many bytes, and the greatest.
func TestOfManyBytes(t *testing.T) {
	row := numbers(2)
	for _, size := range []int{255, 256, 257, 3000, 5551, 5552, 5553, 65520, 65521, 65522, 1<<20 - 1, 1 << 20, 1<<20 + 1, 3<<20 + 5} {
		for _, s := range []string{strings.Repeat("\xff", size), strings.Repeat("\x00", size), row.text(size)} {
			if got := sum.Of(s); got != plain(s) {
				t.Errorf("Of %d bytes %q..: %x, want %x", size, s[:1], got, plain(s))
			}
		}
	}
	big := strings.Repeat("\xff", 1<<27)
	if got := sum.Of(big); got != adler32.Checksum([]byte(big)) {
		t.Errorf("Of 2^27 bytes: %x", got)
	}
}

// P2.1: New, Add and Value, in any parts; a Sum that was added to is as it was (K3).
func TestAddInParts(t *testing.T) {
	if sum.New().Value() != 1 || sum.New().Add("").Value() != 1 {
		t.Error("of no bytes")
	}
	row := numbers(3)
	s := row.text(400)
	for cut := range len(s) + 1 {
		first := sum.New().Add(s[:cut])
		was := first.Value()
		both := first.Add(s[cut:])
		if both.Value() != plain(s) || both != sum.New().Add(s) {
			t.Fatalf("cut at %d: %x, want %x", cut, both.Value(), plain(s))
		}
		if first.Value() != was || was != plain(s[:cut]) {
			t.Fatalf("cut at %d: the first part's sum is another now", cut)
		}
	}
	one := sum.New()
	for i := range len(s) {
		one = one.Add(s[i : i+1])
	}
	if one.Value() != plain(s) {
		t.Errorf("byte by byte: %x", one.Value())
	}
	long := strings.Repeat("\xfe", 2<<20)
	if got := sum.New().Add(long).Add(long).Value(); got != plain(long+long) {
		t.Errorf("long parts: %x", got)
	}
}

// P2.2.
func TestJoinOfTwoTexts(t *testing.T) {
	row := numbers(4)
	s := row.text(300)
	for cut := range len(s) + 1 {
		if got := sum.Join(sum.Of(s[:cut]), sum.Of(s[cut:]), len(s)-cut); got != plain(s) {
			t.Fatalf("cut at %d: %x, want %x", cut, got, plain(s))
		}
	}
	if got := sum.Join(sum.Of("Wiki"), sum.Of("pedia"), 5); got != 0x11e60398 {
		t.Errorf("the example in parts: %x", got)
	}
	for _, n := range []int{0, 1, 65520, 65521, 65522, 131042, 300000} {
		x, y := strings.Repeat("\xff", 70000), strings.Repeat("\xff", n)
		if got := sum.Join(sum.Of(x), sum.Of(y), n); got != plain(x+y) {
			t.Errorf("%d bytes behind many: %x, want %x", n, got, plain(x+y))
		}
	}
}

// joined is the chapter's two rules, in numbers of any size.
func joined(x, y uint32, n int) uint32 {
	mod := big.NewInt(65521)
	a := big.NewInt(int64(x%65536) + int64(y%65536) - 1)
	b := big.NewInt(int64(x%65536) - 1)
	b.Mul(b, big.NewInt(int64(n)))
	b.Add(b, big.NewInt(int64(x/65536)+int64(y/65536)))
	a.Mod(a, mod)
	b.Mod(b, mod)
	return uint32(b.Uint64()*65536 + a.Uint64())
}

// P2.1, P2.2: Join of numbers that need not be texts'.
func TestJoinOfAnyNumbers(t *testing.T) {
	ends := []uint32{0, 1, 2, 255, 32768, 65519, 65520}
	for _, xa := range ends {
		for _, xb := range ends {
			for _, ya := range ends {
				for _, yb := range ends {
					x, y := xb<<16|xa, yb<<16|ya
					for _, n := range []int{0, 1, 2, 65520, 65521, 65522, 1 << 31, 1 << 62, math.MaxInt64} {
						if got := sum.Join(x, y, n); got != joined(x, y, n) {
							t.Fatalf("Join(%x, %x, %d): %x, want %x", x, y, n, got, joined(x, y, n))
						}
					}
					for _, n := range []int{-1, -2, -65521, math.MinInt64} {
						if got := sum.Join(x, y, n); got != x {
							t.Fatalf("Join(%x, %x, %d): %x", x, y, n, got)
						}
					}
				}
			}
		}
	}
}

// P2.1.
func TestHex(t *testing.T) {
	for _, c := range []struct {
		x    uint32
		want string
	}{
		{0, "00000000"},
		{1, "00000001"},
		{0x11e60398, "11e60398"},
		{0x89abcdef, "89abcdef"},
		{0x01234567, "01234567"},
		{0xf0000000, "f0000000"},
		{math.MaxUint32, "ffffffff"},
	} {
		if got := sum.Hex(c.x); got != c.want {
			t.Errorf("Hex(%d): %q, want %q", c.x, got, c.want)
		}
	}
	row := numbers(5)
	for range 1000 {
		x := uint32(row.next(1<<31)) << 1
		back, err := strconv.ParseUint(sum.Hex(x), 16, 32)
		if err != nil || uint32(back) != x || len(sum.Hex(x)) != 8 {
			t.Fatalf("Hex(%d): %q", x, sum.Hex(x))
		}
	}
}

// P2.1.
func TestCheck(t *testing.T) {
	for _, c := range []struct {
		hex, s string
		want   api.Errno
	}{
		{"11e60398", "Wikipedia", api.OK},
		{"00000001", "", api.OK},
		{"012600c4", "ab", api.OK},
		{"11e60399", "Wikipedia", api.ErrSum},
		{"00000000", "Wikipedia", api.ErrSum},
		{"ffffffff", "Wikipedia", api.ErrSum},
		{"11e60398", "Wikipedib", api.ErrSum},
		{"11e60398", "", api.ErrSum},
		{"", "", api.ErrForm},
		{"", "Wikipedia", api.ErrForm},
		{"1", "", api.ErrForm},
		{"11e6039", "Wikipedia", api.ErrForm},
		{"11e603980", "Wikipedia", api.ErrForm},
		{"011e60398", "Wikipedia", api.ErrForm},
		{"11E60398", "Wikipedia", api.ErrForm},
		{"11e6039 ", "Wikipedia", api.ErrForm},
		{" 11e6039", "Wikipedia", api.ErrForm},
		{"0x000001", "", api.ErrForm},
		{"+0000001", "", api.ErrForm},
		{"-0000001", "", api.ErrForm},
		{"0000000g", "", api.ErrForm},
		{"0000000`", "", api.ErrForm},
		{"0000000:", "", api.ErrForm},
		{"0000000/", "", api.ErrForm},
		{"0000000\x00", "", api.ErrForm},
		{"0000000\xff", "", api.ErrForm},
		{"000000ä", "", api.ErrForm},
	} {
		if got := sum.Check(c.hex, c.s); got != c.want {
			t.Errorf("Check(%q, %q): %d, want %d", c.hex, c.s, got, c.want)
		}
	}
	row := numbers(6)
	for size := range 300 {
		s := row.text(size)
		if sum.Check(sum.Hex(sum.Of(s)), s) != api.OK || sum.Check(sum.Hex(sum.Of(s)^1<<row.next(32)), s) != api.ErrSum {
			t.Fatalf("Check of %d bytes", size)
		}
	}
}

// P2.3.
func TestOneByteChanged(t *testing.T) {
	row := numbers(7)
	for _, size := range []int{1, 2, 255, 256, 2999, 3000} {
		s := []byte(row.text(size))
		was := sum.Of(string(s))
		for _, at := range []int{0, size / 2, size - 1} {
			old := s[at]
			for c := range 256 {
				s[at] = byte(c)
				if (sum.Of(string(s)) == was) != (byte(c) == old) {
					t.Fatalf("byte %d of %d, %d changed to %d: the same sum", at, size, old, c)
				}
			}
			s[at] = old
		}
	}
}
