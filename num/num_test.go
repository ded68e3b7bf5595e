package num_test

import (
	"math"
	"math/big"
	"testing"

	"scribe/api"
	"scribe/num"
)

// numbers are those of a rule, so that each run has the same ones.
type numbers uint64

func (n *numbers) next(below int) int {
	*n = *n*6364136223846793005 + 1442695040888963407
	return int(uint64(*n)>>33) % below
}

// num: a number of any size, of either sign.
func (n *numbers) num() num.Num {
	a := (num.Num(n.next(1<<31))<<31 | num.Num(n.next(1<<31))) >> n.next(62)
	if n.next(2) == 0 {
		return -a
	}
	return a
}

// edges are the numbers at which something may change, each with its neighbours, of either sign.
func edges() []num.Num {
	var l []num.Num
	for _, a := range []num.Num{0, 2, 7, 10, 100000, num.One / 2, num.One, 1500000, 3 * num.One, 7 * num.One, 10 * num.One, 1 << 31,
		2147483648000, 4611686018427, 1e15, num.Most / num.One * num.One, num.Most / 3, num.Most / 2, num.Most - 1} {
		for d := num.Num(-1); d <= 1; d++ {
			l = append(l, a+d, -a-d)
		}
	}
	return l
}

// pairs are each two of the edges, and many others.
func pairs(t *testing.T, try func(a, b num.Num)) {
	t.Helper()
	for _, a := range edges() {
		for _, b := range edges() {
			try(a, b)
		}
	}
	row := numbers(1)
	for range 50000 {
		try(row.num(), row.num())
	}
}

func whole(a num.Num) *big.Int {
	return big.NewInt(int64(a))
}

// bounded: what lies beyond Most is Most, or -Most.
func bounded(x *big.Int) num.Num {
	switch {
	case x.Cmp(whole(num.Most)) > 0:
		return num.Most
	case x.Cmp(whole(-num.Most)) < 0:
		return -num.Most
	}
	return num.Num(x.Int64())
}

// ratio: a times b in c's, cut off towards 0.
func ratio(a, b, c num.Num) num.Num {
	product := new(big.Int).Mul(whole(a), whole(b))
	return bounded(product.Quo(product, whole(c)))
}

func TestBounds(t *testing.T) {
	if num.One != 1000000 || num.Most != 4611686018427387903 {
		t.Errorf("One %d, Most %d", num.One, num.Most)
	}
}

// P5.1: Int.
func TestInt(t *testing.T) {
	for n, want := range map[int]num.Num{
		0: 0, 1: 1000000, -1: -1000000, -3: -3000000, 1234567: 1234567000000,
		4611686018427:  4611686018427000000,
		-4611686018427: -4611686018427000000,
		4611686018428:  num.Most,
		-4611686018428: -num.Most,
		1 << 60:        num.Most,
		-1 << 60:       -num.Most,
		math.MaxInt:    num.Most,
		math.MinInt:    -num.Most,
		// The product's lowest 64 bits look as if there were room for it.
		1 << 58:  num.Most,
		-1 << 58: -num.Most,
	} {
		if got := num.Int(n); got != want {
			t.Errorf("Int(%d): %d, want %d", n, got, want)
		}
	}
	row := numbers(2)
	for range 20000 {
		n := int(row.num())
		if got, want := num.Int(n), ratio(num.Num(n), num.One, 1); got != want {
			t.Fatalf("Int(%d): %d, want %d", n, got, want)
		}
	}
}

// P5.1: Whole, which takes back what Int made.
func TestWhole(t *testing.T) {
	for a, want := range map[num.Num]int{
		0: 0, 1: 0, -1: 0, 999999: 0, -999999: 0, 1000000: 1, -1000000: -1, 1999999: 1, -1999999: -1, 2000000: 2,
		num.Most: 4611686018427, -num.Most: -4611686018427,
	} {
		if got := a.Whole(); got != want {
			t.Errorf("%d.Whole(): %d, want %d", a, got, want)
		}
	}
	row := numbers(3)
	for range 10000 {
		a := row.num()
		if got, want := a.Whole(), ratio(a, 1, num.One); num.Num(got) != want {
			t.Fatalf("%d.Whole(): %d, want %d", a, got, want)
		}
		if n := a.Whole(); num.Int(n).Whole() != n {
			t.Fatalf("Int(%d).Whole(): %d", n, num.Int(n).Whole())
		}
	}
}

// P5.1: Add and Sub, up to Most and beyond.
func TestSums(t *testing.T) {
	const most = num.Most
	for _, c := range []struct{ a, b, sum, less num.Num }{
		{0, 0, 0, 0},
		{1500000, 2, 1500002, 1499998},
		{-5, 3, -2, -8},
		{most, 0, most, most},
		{most, 1, most, most - 1},
		{most, -1, most - 1, most},
		{most - 1, 1, most, most - 2},
		{most - 1, -1, most - 2, most},
		{-most, 1, 1 - most, -most},
		{-most, -1, -most, 1 - most},
		{most, most, most, 0},
		{most, -most, 0, most},
		{-most, most, 0, -most},
		{-most, -most, -most, 0},
		{0, -most, -most, most},
	} {
		if got := num.Add(c.a, c.b); got != c.sum {
			t.Errorf("Add(%d, %d): %d, want %d", c.a, c.b, got, c.sum)
		}
		if got := num.Sub(c.a, c.b); got != c.less {
			t.Errorf("Sub(%d, %d): %d, want %d", c.a, c.b, got, c.less)
		}
	}
	pairs(t, func(a, b num.Num) {
		if got, want := num.Add(a, b), bounded(new(big.Int).Add(whole(a), whole(b))); got != want {
			t.Fatalf("Add(%d, %d): %d, want %d", a, b, got, want)
		}
		if got, want := num.Sub(a, b), bounded(new(big.Int).Sub(whole(a), whole(b))); got != want {
			t.Fatalf("Sub(%d, %d): %d, want %d", a, b, got, want)
		}
	})
}

// P5.1: Mul, its places cut off towards 0, up to Most and beyond.
func TestMul(t *testing.T) {
	const most = num.Most
	for _, c := range []struct{ a, b, want num.Num }{
		{1000, 100, 0}, // the chapter's 0.001 times 0.0001
		{1500000, 2000000, 3000000},
		{-1500000, 2000000, -3000000},
		{-1500000, -2000000, 3000000},
		{0, most, 0},
		{0, -most, 0},
		{1, 999999, 0},
		{-1, 999999, 0},
		{1, 1999999, 1},
		{-1, 1999999, -1},
		{1, -1999999, -1},
		{-1, -1999999, 1},
		{333333, 333333, 111110},
		{-333333, 333333, -111110},
		{most, num.One, most},
		{-most, num.One, -most},
		{most, -num.One, -most},
		{most, num.One + 1, most},
		{most, -num.One - 1, -most},
		{most, num.One - 1, 4611681406741369475},
		{most, 1, 4611686018427},
		{-most, 1, -4611686018427},
		{most, most, most},
		{most, -most, -most},
		{-most, -most, most},
		{2147483648000, 2147483648000, most}, // one beyond
		{-2147483648000, 2147483648000, -most},
		{2147483648000, 2147483647999, 4611686018425240420},
	} {
		if got := num.Mul(c.a, c.b); got != c.want {
			t.Errorf("Mul(%d, %d): %d, want %d", c.a, c.b, got, c.want)
		}
	}
	pairs(t, func(a, b num.Num) {
		if got, want := num.Mul(a, b), ratio(a, b, num.One); got != want {
			t.Fatalf("Mul(%d, %d): %d, want %d", a, b, got, want)
		}
	})
}

// P5.1: Div, its places cut off towards 0, up to Most and beyond; by 0.
func TestDiv(t *testing.T) {
	const most = num.Most
	for _, c := range []struct {
		a, b, want num.Num
		e          api.Errno
	}{
		{1000000, 3000000, 333333, api.OK},
		{-1000000, 3000000, -333333, api.OK},
		{2000000, 3000000, 666666, api.OK},
		{2000000, -3000000, -666666, api.OK},
		{-2000000, -3000000, 666666, api.OK},
		{0, 5, 0, api.OK},
		{0, -5, 0, api.OK},
		{1, 1000001, 0, api.OK},
		{-1, 1000001, 0, api.OK},
		{1, most, 0, api.OK},
		{1, 1, 1000000, api.OK},
		{1, -1, -1000000, api.OK},
		{7, 1, 7000000, api.OK},
		{most, 1, most, api.OK},
		{most, -1, -most, api.OK},
		{-most, 1, -most, api.OK},
		{-most, -1, most, api.OK},
		{most, num.One, most, api.OK},
		{most, -num.One, -most, api.OK},
		{most, num.One - 1, most, api.OK},
		{-most, num.One - 1, -most, api.OK},
		{most, most, 1000000, api.OK},
		{most, -most, -1000000, api.OK},
		{most - 1, most, 999999, api.OK},
		{4611686018427, 1, 4611686018427000000, api.OK},
		{4611686018428, 1, most, api.OK},
		{-4611686018428, 1, -most, api.OK},
		{0, 0, 0, api.ErrRun},
		{1, 0, 0, api.ErrRun},
		{-1, 0, 0, api.ErrRun},
		{most, 0, 0, api.ErrRun},
		{-most, 0, 0, api.ErrRun},
	} {
		if got, e := num.Div(c.a, c.b); got != c.want || e != c.e {
			t.Errorf("Div(%d, %d): %d, %d, want %d, %d", c.a, c.b, got, e, c.want, c.e)
		}
	}
	pairs(t, func(a, b num.Num) {
		if b == 0 {
			return
		}
		if got, e := num.Div(a, b); got != ratio(a, num.One, b) || e != api.OK {
			t.Fatalf("Div(%d, %d): %d, %d, want %d", a, b, got, e, ratio(a, num.One, b))
		}
	})
}

// P5.1: Mod, of either sign, and where the quotient lies beyond Most; by 0.
func TestMod(t *testing.T) {
	const most = num.Most
	for _, c := range []struct {
		a, b, want num.Num
		e          api.Errno
	}{
		{-7000000, 3000000, -1000000, api.OK},
		{7000000, 3000000, 1000000, api.OK},
		{7000000, -3000000, 1000000, api.OK},
		{-7000000, -3000000, -1000000, api.OK},
		{6000000, 3000000, 0, api.OK},
		{-6000000, 3000000, 0, api.OK},
		{0, 3000000, 0, api.OK},
		{5500000, 2000000, 1500000, api.OK},
		{-5500000, 2000000, -1500000, api.OK},
		{1000000, 300000, 100000, api.OK},
		{2000000, 3000000, 2000000, api.OK},
		{-2000000, 3000000, -2000000, api.OK},
		{most, 1, 0, api.OK},
		{-most, -1, 0, api.OK},
		{most, 2, 1, api.OK}, // the quotients here lie beyond Most
		{-most, 2, -1, api.OK},
		{most, 1000, 903, api.OK},
		{-most, 1000, -903, api.OK},
		{most, -1000, 903, api.OK},
		{most, 999999, 18021, api.OK},
		{most, num.One, 387903, api.OK},
		{most, most, 0, api.OK},
		{most - 1, most, most - 1, api.OK},
		{1 - most, most, 1 - most, api.OK},
		{most, most - 1, 1, api.OK},
		{0, 0, 0, api.ErrRun},
		{5, 0, 0, api.ErrRun},
		{-5, 0, 0, api.ErrRun},
		{most, 0, 0, api.ErrRun},
		{-most, 0, 0, api.ErrRun},
	} {
		if got, e := num.Mod(c.a, c.b); got != c.want || e != c.e {
			t.Errorf("Mod(%d, %d): %d, %d, want %d, %d", c.a, c.b, got, e, c.want, c.e)
		}
	}
	pairs(t, func(a, b num.Num) {
		if b == 0 {
			return
		}
		times := new(big.Int).Quo(whole(a), whole(b))
		want := new(big.Int).Sub(whole(a), times.Mul(times, whole(b)))
		got, e := num.Mod(a, b)
		if got != num.Num(want.Int64()) || e != api.OK {
			t.Fatalf("Mod(%d, %d): %d, %d, want %d", a, b, got, e, want)
		}
		if got != 0 && (got < 0) != (a < 0) {
			t.Fatalf("Mod(%d, %d): %d hasn't the sign of the first", a, b, got)
		}
	})
}

// P1: what isn't a number lets nothing panic either.
func TestBeyondMostEnds(t *testing.T) {
	for _, a := range []num.Num{math.MinInt64, math.MinInt64 + 1, -num.Most - 1, num.Most + 1, math.MaxInt64} {
		for _, b := range append(edges(), math.MinInt64, math.MaxInt64) {
			for _, c := range [][2]num.Num{{a, b}, {b, a}} {
				num.Add(c[0], c[1])
				num.Sub(c[0], c[1])
				num.Mul(c[0], c[1])
				num.Div(c[0], c[1])
				num.Mod(c[0], c[1])
			}
		}
		a.Whole()
		if a.Text() == "" {
			t.Errorf("%d.Text() is empty", a)
		}
	}
}
