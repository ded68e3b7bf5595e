package state_test

import (
	"maps"
	"math/rand"
	"strconv"
	"strings"
	"testing"

	"scribe/api"
	"scribe/code"
	"scribe/vm"
)

// sheets is an output: files by names. It refuses the empty name, and such as begin with a hash.
type sheets map[string]string

func (s sheets) begin(name string) api.Errno {
	if name == "" || name[0] == '#' {
		return api.ErrArg
	}
	s[name] = ""
	return api.OK
}

func (s sheets) add(name, text string) api.Errno {
	if name == "" || name[0] == '#' {
		return api.ErrArg
	}
	s[name] += text
	return api.OK
}

func (s sheets) output() vm.Output {
	return vm.Output{Begin: s.begin, Append: s.add}
}

// run is a program over inputs.
type run struct {
	source string
	p      *code.Program
	in     []vm.File
}

func newRun(t *testing.T, source string, texts ...string) run {
	t.Helper()
	p, at, e := code.Compile(source)
	if e != api.OK {
		t.Fatalf("Compile(%q): %d at %d", source, e, at)
	}
	x := run{source: source, p: p}
	for i, s := range texts {
		x.in = append(x.in, vm.File{Name: "in" + strconv.Itoa(i), Text: s})
	}
	return x
}

// behind: a machine behind so many steps, and its output.
func (x run) behind(steps int) (*vm.Machine, sheets) {
	out := sheets{}
	m := vm.New(x.p, x.in, out.output())
	m.Run(steps)
	return m, out
}

func alike(a, b *vm.Machine, one, two sheets) bool {
	sa, ea := a.Code()
	sb, eb := b.Code()
	return a.Over() == b.Over() && a.Steps == b.Steps && sa == sb && ea == eb && maps.Equal(one, two)
}

// samples: runs through all kinds of states: in functions with arrays of their own, in loops over keys, between records, behind exit, behind errors.
func samples(t *testing.T) []run {
	t.Helper()
	var l []run
	for _, s := range []string{
		"", "{print}", "BEGIN{print 1} {n+=$2;print n > \"o\"} END{print n/NR}",
		"{m[$1]=m[$1] $2} END{for(k in m){print k,m[k];delete m[k]};m[1];delete m}",
		"function f(n,a,k){a[n]=n;if(n<=0)return \"z\";for(k in a)return f(n-1) k;return 5} {print f(2),$1 >> (\"o\" $2)} END{print f(1)}",
		"function f(n,a,b,k){a[n];b[n \"x\"]=n;if(n>0)return f(n-1,b)+f(n-1);for(k in a)s=s k;return length(s)} BEGIN{m[1]=2;print f(3,m),s}",
		"function f(a,b,n){if(n>1)return f(b,a,n-1);a[n]=split($0,b);return g(a)+g(b)} function g(a,c,k){for(k in a)c[a[k]]++;for(k in c)s=s k c[k] \" \";return length(s)} {print f(m,l,3),s;print f(m),s}",
		"{x=$1~/a/?x \"y\":x \"n\";sub(/a/,\"<&>\");gsub(/[0-9]/,\"#\",$2);print x,$0,NF;NF=1;$3=x;$4=5;print} END{exit NR+5;print 1}",
		"{printf \"%s-%d|\",$1,$2;print match($0,/[0-9]/),RSTART,rand(),srand(NR/3)} END{print RLENGTH+rand()}",
		"{print > \"b\";print >> \"a\"} NR==3{print 1/0;print 2} END{print 3}",
		"function f(n){f(n+1)} BEGIN{print 1;f(1)}", "{$0=$2 \" \" $1;print;$(NF+2)=1;print NF;$600=2}", "{print > $1;print > \"#\"}",
		"function f(a,k){for(k in a)for(k in a)if(k==\"b\")exit 3;else next_[k]} {m[$1];if(NR>1)f(m);print}",
		"BEGIN{FS=\",\";OFS=\";\";ORS=\"!\";x=\"\\n(i5;:\";m[x]=x;m[\"\"]=\"\"} {$1=$1;print;y=$2+0;next} END{NR=-1.5;print NR,y,u,m[x]}",
		"BEGIN{m[1];m[2];m[3];for(i in m)for(j in m)for(k in m){if(j==2)continue;if(k==3)break;delete m[i];print i j k}}",
		"{m[NR];for(k in m){for(j in m)if(k j>21)next;x=x k};print x} END{for(k in m)print k x}",
		"BEGIN{print 1,2,sprintf(\"%s\",f(1,m)) f(2) > (\"x\" f(0))} function f(n,a){a[1]=n;return n>0?\"a\" f(n-1,a) a[1]:\"e\"}",
	} {
		l = append(l, newRun(t, s, "a 1\nb 2\n", "", "a,3 x\nab", "\n"))
	}
	return append(l, newRun(t, "BEGIN{print 1}END{print NR}"), newRun(t, "{x=FILENAME;m[x]=x}", "a\nb"))
}

// written: a random program of such deeds as states remember.
func written(r *rand.Rand) string {
	deeds := strings.Split("x=x 1|y=y+1.5|m[x]=y|l[y]=x|m[NR]=$1|delete m[1]|delete l|print x,y|print > \"o\" NR%2|printf \"%s,\",$2 >> \"p\"|$2=x|$NF=\"\"|NF=2|OFS=\"-\"|x=f(2,y)|x=f(1,y,m)|y=f(2)|y=g(m,x)|x=g(l)|sub(/[0-9]/,\"<&>\")|gsub(/1/,\"\",x)|n=split($0,m)|srand(y)|x=rand()|match($0,/b+/)|for(k in m)x=x k|for(k in m){for(j in l)if(j>k)break;else y++;print k}|for(k in l){l[k]++;x=f(1,k,l)}|while(i++<3)print i|if(x>y)y=0;else x=\"\"|if(y>20)y=0|FS=\",\"|y=!y|y=$1~x|exit y|if(NR==3)next_=1/0|if(f(1)<2)exit 2", "|")
	item := func(head string) string {
		s := head + "{"
		for range 1 + r.Intn(5) {
			s += deeds[r.Intn(len(deeds))] + "\n"
		}
		return s + "}\n"
	}
	s := "function f(n,v,a,b,k){a[v];b[n]=v;if(n<1)return v;for(k in a){" + deeds[r.Intn(6)] + ";if(k==v)return f(n-1,k,b) 1};return f(n-1,1,a)+1}\n" + "function g(a,v,c,k){c[v]=NR;for(k in a)c[k]=f(1,k,c);a[v];return length(v)}\n"
	for range 1 + r.Intn(3) {
		s += item([]string{"BEGIN", "", "END", "NR%2", "$2"}[r.Intn(5)])
	}
	return s
}

func randomRun(t *testing.T, r *rand.Rand) run {
	t.Helper()
	return newRun(t, written(r), "a 1\nb 2,1\n", "bb 10 x\n\n1 1")
}
