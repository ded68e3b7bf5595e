package state_test

import (
	"strconv"
	"strings"
	"testing"

	"scribe/api"
	"scribe/state"
	"scribe/vm"
)

// largest: how large a run's state gets, as far as a few looks at it tell, most of them near its end, where calls are deepest.
func largest(t *testing.T, x run) int {
	t.Helper()
	whole, _ := x.behind(10000000)
	size, n := 0, whole.Steps
	for _, at := range []int{n / 4, n / 2, n * 3 / 4, n - 1000, n - 600, n - 420, n - 300, n - 120, n} {
		m, _ := x.behind(at)
		text := state.Write(m.State)
		size = max(size, len(text))
		s, e := state.Read(text, x.p, x.in)
		if e != api.OK {
			t.Fatalf("%.60q: Read: %d", x.source, e)
		}
		if state.Write(vm.Restore(x.p, x.in, sheets{}.output(), s).State) != text {
			t.Fatalf("%.60q: other bytes", x.source)
		}
	}
	return size
}

// P18.1: a state has at most 2^20 bytes, if its texts and keys aren't more: however many keys there are, calls within one another, and what these have.
func TestSize(t *testing.T) {
	names := func(n int) string {
		var l []string
		for i := range n {
			l = append(l, "a"+strconv.Itoa(i))
		}
		return strings.Join(l, ",")
	}
	many := func(s string, n int) string { return strings.Repeat(s, n) }
	for _, source := range []string{
		"BEGIN{for(i=0;i<4000;i++)m[i]=i/7;x=1}",
		"BEGIN{for(i=0;i<4000;i++)m[i \"-key-of-some-length-\" i*i]=\"a value of some length \" i;x=1}",
		"function f(n){for(k in m)if(n<99)f(n+1)} BEGIN{for(i=0;i<4000;i++)m[i];f(0)}",
		"function f(n,k){for(k in m)for(k in l)if(n<99)f(n+1);else exit} BEGIN{for(i=0;i<2000;i++){m[i];l[i \"x\"]};f(0)}",
		"function f(n,x){x=x \"0123456789\";if(n<100)f(n+1,x)} BEGIN{x=sprintf(\"%900s\",1);f(1,x)}",
		"function f(n," + names(700) + "){if(n<99)f(n+1)} BEGIN{f(0)}",
		"function f(n){return n<99?sprintf(\"%s\"" + many(",1", 1900) + ",f(n+1)):1} BEGIN{f(0)}",
		"function f(n,x){return n<99?sprintf(\"%s\"" + many(",x,y", 900) + ",f(n+1,x*1.37)):1} BEGIN{y=4611686018427.5;f(0,1234567.654321)}",
		"function f(n){return n<99?sprintf(\"%s\"" + many(",x++", 900) + ",f(n+1)):1} BEGIN{f(0)}",
		"function f(n){return n<99?sprintf(\"%s\"" + many(",x-=3", 780) + ",f(n+1)):1} BEGIN{x=4611686018427.387903;f(0)}",
		"function f(n){return n<99?sprintf(\"%s\"" + many(",x-=3,-x", 480) + ",f(n+1)):1} BEGIN{x=4611686018427.387903;f(0)}",
		"function f(n," + names(300) + "){if(n<99)f(n+1);" + strings.ReplaceAll(names(300), ",", "[1];") + "[1]} BEGIN{f(0)}",
		"function f(n,a){split($0,a);if(n<7)f(n+1);else exit} {f(0)}",
	} {
		x := newRun(t, source, strings.Repeat("field ", 500)+"\n")
		if size := largest(t, x); size > 1<<20 {
			t.Errorf("%.60q: %d bytes", source, size)
		}
	}
}

// P18.1: texts and keys that are many or long are told once, as far as they are the same.
func TestSameTexts(t *testing.T) {
	x := newRun(t, "function f(n,x,y){if(n<99)f(n+1,x,x \"\");exit} BEGIN{x=sprintf(\"%1000s%1000s%1000s\",1,2,3);for(i=0;i<1000;i++)m[i]=x;f(0,x)}")
	if size := largest(t, x); size > 100000 {
		t.Errorf("%d bytes", size)
	}
}

// P18.1: texts that are longer than a program makes them: an input's name.
func TestLongName(t *testing.T) {
	x := newRun(t, "{x=FILENAME;m[x]=x;for(k in m)y=k}", "a\nb\n")
	x.in[0].Name = strings.Repeat("n", 5000)
	m, _ := x.behind(enough)
	for at := range m.Steps + 1 {
		checkBack(t, x, at, 3)
	}
}
