package vm_test

import (
	"math"
	"slices"
	"strings"
	"testing"

	"scribe/api"
	"scribe/vm"
)

// samples: runs with each kind of statement, over a few records.
func samples() []string {
	return []string{
		"", "{print}", "BEGIN{print 1} {n+=$2;print n > \"o\"} END{print n/NR}",
		"BEGIN{while(i<3){if(i==1){i++;continue};print i++};for(;;){if(i-->0)continue;break};for(j=0;j<2;j++)print i j}",
		"{m[$1]=m[$1] $2} END{for(k in m){print k,m[k];delete m[k]};for(k in m)print \"no\";m[1];delete m}",
		"function f(n,a,k){a[n];if(n<=0)return \"z\";for(k in a)return f(n-1) k;return 5} {print f(2),$1 >> (\"o\" $2)} END{print f(1)}",
		"function f(n){if(n>0){f(n-1);print n}} NR==2{next} {f(2);print}",
		"{x=$1~/a/?x \"y\":x \"n\";sub(/a/,\"<&>\");gsub(/[0-9]/,\"#\",$2);print x,$0,NF;NF=1;$3=x;print} END{exit NR+5;print 1}",
		"{printf \"%s-%d|\",$1,$2;print length,substr($0,2,1),index($0,\"b\"),split($0,m),m[2],match($0,/[0-9]/),RSTART,toupper($1),int(-1.5),sprintf(\"%x\",255),rand(),srand(NR)} END{print RLENGTH+rand()}",
		"BEGIN{x=1;y=x++ + ++x;z=-y;w=!z&&x||y;print x,y,z,w,x<y,x==3;x+=2;x-=1;x*=3;x/=2;x%=4;print x;if(x in m);else print 7}",
		"{print > \"a\";print >> \"b\";printf \"%s\",$1 > \"a\"} NR==3{print 1/0;print 2} END{print 3}",
		"function f(n){print n;f(n+1)} BEGIN{f(1)}", "{$0=$2 \" \" $1;print;$(NF+2)=1;print NF;$600=2}", "{print > $1;print > \"#\"}", "function f(a,k){for(k in a)for(k in a)exit 3} {m[$1];if(NR==3)f(m);print}",
		"BEGIN{FS=\",\";OFS=\";\";ORS=\"!\"} {$1=$1;print} END{FS=\"((\";$0=\"x\"}",
	}
}

func sampleInput() []vm.File {
	return files("a 1\nb 2\n", "", "a,3 x\nab", "\n")
}

// P17.3: a run in pieces of each size up to its length says the same as at once; so does one in pieces of sizes that change.
func TestPieces(t *testing.T) {
	for _, s := range samples() {
		in := sampleInput()
		whole, steps := played(t, s, in)
		checkWalk(t, s, in, whole, steps)
		for size := 1; size <= steps+1; size++ {
			if steps > 1000 && size > 40 && size < steps-3 {
				continue
			}
			checkPieces(t, s, in, whole, steps, size)
		}
		out := sheets{}
		m := machineOf(t, s, in, out)
		for size := 0; !m.Over(); size = (size*7 + 3) % 11 {
			was := m.Steps
			m.Run(size - 1)
			if did := m.Steps - was; did != max(0, size-1) && !m.Over() {
				t.Errorf("%q: Run(%d) does %d steps", s, size-1, did)
			}
		}
		if got := end(t, m, out); !alike(got, whole) || m.Steps != steps {
			t.Errorf("%q in many pieces: %v, want %v", s, got, whole)
		}
	}
}

// P17.2: behind each step there is printed a beginning of what there is in the end, file by file.
func TestCutShort(t *testing.T) {
	for _, s := range samples() {
		whole, steps := played(t, s, sampleInput())
		out := sheets{}
		m := machineOf(t, s, sampleInput(), out)
		was := 0
		for i := range steps {
			m.Run(1)
			size := 0
			for name, text := range out {
				if !strings.HasPrefix(whole.files[name], text) {
					t.Fatalf("%q behind %d steps: %s has %q, in the end %q", s, i+1, name, text, whole.files[name])
				}
				size += len(text)
			}
			if size < was {
				t.Fatalf("%q behind %d steps: %d bytes, %d ahead of it", s, i+1, size, was)
			}
			was = size
		}
	}
	// A file that is emptied later has its own bytes till then.
	out := sheets{"o": "old"}
	m := machineOf(t, "BEGIN{x=1;print 1 > \"o\";print 2 > \"o\"}", nil, out)
	var seen []string
	for !m.Over() {
		if !slices.Contains(seen, out["o"]) {
			seen = append(seen, out["o"])
		}
		m.Run(1)
	}
	if !slices.Equal(seen, []string{"old", "1\n", "1\n2\n"}) {
		t.Errorf("%q", seen)
	}
}

// P17.3: what is done with no fuel, with all of it, and behind the end.
func TestFuel(t *testing.T) {
	for _, s := range samples() {
		whole, steps := played(t, s, sampleInput())
		out := sheets{}
		m := machineOf(t, s, sampleInput(), out)
		for _, fuel := range []int{0, -1, math.MinInt} {
			if e := m.Run(fuel); e != api.OK || m.Steps != 0 || m.Over() || m.Part != 0 || len(out) != 0 {
				t.Errorf("%q: Run(%d): %d, %d steps", s, fuel, e, m.Steps)
			}
		}
		if m.Run(steps - 1); m.Over() || m.Steps != steps-1 {
			t.Errorf("%q: over behind %d of %d steps", s, m.Steps, steps)
		}
		for _, fuel := range []int{1, 1, 0, -5, 100, math.MaxInt} {
			if e := m.Run(fuel); e != api.OK || !m.Over() || m.Part != 3 || m.Steps != steps {
				t.Errorf("%q: Run(%d): %d, over %v, %d steps of %d", s, fuel, e, m.Over(), m.Steps, steps)
			}
			if got := end(t, m, out); !alike(got, whole) {
				t.Errorf("%q: %v, want %v", s, got, whole)
			}
		}
	}
	out := sheets{}
	m := machineOf(t, "BEGIN{print 1;while(1)x++}", nil, out)
	m.Run(100000)
	if m.Over() || m.Steps != 100000 || out["stdout"] != "1\n" {
		t.Errorf("%d steps, %q", m.Steps, out)
	}
}

// P17.1: Part says which part of a run a machine is in.
func TestParts(t *testing.T) {
	for s, want := range map[string]string{"BEGIN{x=1} {x=2} END{x=3}": "0123", "BEGIN{x=1}": "0123", "{print}": "0123", "": "0123", "BEGIN{exit}": "03", "{exit}": "013", "END{1/0}": "0123", "END{x}": "0123"} {
		m := machineOf(t, s, files("a\nb\n"), sheets{})
		got := string(rune('0' + m.Part))
		for !m.Over() {
			m.Run(1)
			if now := string(rune('0' + m.Part)); !strings.HasSuffix(got, now) {
				got += now
			}
		}
		if got != want {
			t.Errorf("%q: parts %s, want %s", s, got, want)
		}
	}
	m := machineOf(t, "BEGIN{x=1} {x=2} END{x=3}", files("", ""), sheets{})
	for !m.Over() {
		m.Run(1)
		if m.Part == 1 {
			t.Error("a record, where there is none")
		}
	}
}
