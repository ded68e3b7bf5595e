package code_test

import (
	"fmt"
	"math"
	"math/rand"
	"slices"
	"strings"
	"testing"

	"scribe/api"
	"scribe/code"
	"scribe/num"
	"scribe/parse"
	"scribe/resolve"
)

func TestName(t *testing.T) {
	names := strings.Fields("length substr index split match tolower toupper int sprintf rand srand")
	for i := -20; i < 40; i++ {
		want := ""
		if i >= 0 && i < len(names) {
			want = names[i]
		}
		if got := code.Name(i); got != want {
			t.Errorf("Name(%d) = %q, want %q", i, got, want)
		}
	}
	for _, i := range []int{math.MinInt, math.MinInt + 1, -1 << 32, 1 << 32, 1<<32 + 3, math.MaxInt} {
		if got := code.Name(i); got != "" {
			t.Errorf("Name(%d) = %q", i, got)
		}
	}
}

// named: what a program says of its names: functions' kinds, and behind | the names of all but the eight, those of arrays with [] behind.
func named(p *code.Program) string {
	var l []string
	for _, f := range p.Funcs {
		l = append(l, "("+kinds(f.Arrays)+")")
	}
	l = append(l, "|")
	for i, name := range p.Globals[8:] {
		if p.Arrays[8+i] {
			name += "[]"
		}
		l = append(l, name)
	}
	return strings.Join(l, " ")
}

const eight = "NR NF FS OFS ORS FILENAME RSTART RLENGTH"

// P15.1: the names of a program: the eight and the others in the order in which they are met, which of them are arrays, and functions in order.
func TestNames(t *testing.T) {
	for _, x := range [][2]string{
		{"", "|"}, {"BEGIN{}", "|"}, {"BEGIN{x=1}", "| x"}, {"BEGIN{b;a;b;c[a]}", "| b a c[]"}, {"{print NF,x,NR,y}", "| x y"}, {"BEGIN{RLENGTH;RSTART;FILENAME;ORS;OFS;FS;NF;NR}", "|"},
		{"{a[1]} END{for(k in a)delete b}", "| a[] k b[]"}, {"x in y", "| y[] x"}, {"{split(s,t,u)}", "| s t[] u"}, {"{$x=y z}", "| x y z"}, {"{Nr;nf;FS_}", "| Nr nf FS_"},
		{"function f(){}", "() |"}, {"function f(a,b,c){b[1]}", "(vav) |"}, {"function f(a){x=a} function g(b,c){c[y]} END{g(z,m)}", "(v) (va) | x y z m[]"}, {"function g(b){b[1]} function f(a){g(a)} {f(n)}", "(a) (a) | n[]"}, {"BEGIN{f(x)} function f(y){x;y}", "(v) | x"}, {"function f(x){x} BEGIN{x[1]}", "(v) | x[]"}, {"function NF(a){a} {NR}", "(v) |"},
	} {
		p, at, e := code.Compile(x[0])
		if e != api.OK || at != 0 {
			t.Errorf("Compile(%q): %d at %d", x[0], e, at)
			continue
		}
		if got := named(p); got != x[1] || strings.Join(p.Globals[:8], " ") != eight || len(p.Globals) != len(p.Arrays) || kinds(p.Arrays[:8]) != "vvvvvvvv" {
			t.Errorf("Compile(%q): %s of %q, %v, want %s", x[0], got, p.Globals, p.Arrays, x[1])
		}
		agree(t, p)
	}
	r := rand.New(rand.NewSource(20))
	for range 2000 {
		s := newWriter(r).program()
		p := compiled(t, s)
		tree, _, _ := parse.Parse(s)
		names, _, _ := resolve.Resolve(tree)
		w := newWalker(tree, names)
		if !slices.Equal(p.Globals, w.globals) || len(p.Funcs) != len(names.Funcs) {
			t.Fatalf("Compile(%q): %q, want %q", s, p.Globals, w.globals)
		}
		for i, name := range w.globals {
			at := slices.Index(names.Globals, name)
			if p.Arrays[i] != (at >= 0 && names.Arrays[at]) {
				t.Fatalf("Compile(%q): is %s an array? %v", s, name, p.Arrays[i])
			}
		}
		for i, f := range names.Funcs {
			if !slices.Equal(p.Funcs[i].Arrays, f.Arrays) {
				t.Fatalf("Compile(%q): %v of function %s, want %v", s, p.Funcs[i].Arrays, f.Name, f.Arrays)
			}
		}
	}
}

// checkError: Compile has the error of Parse, or else of Resolve; without one it answers a program that Check takes.
func checkError(t *testing.T, s string) api.Errno {
	t.Helper()
	tree, at, e := parse.Parse(s)
	if e == api.OK {
		_, at, e = resolve.Resolve(tree)
	}
	p, gotAt, got := code.Compile(s)
	if got != e || gotAt != at || (p == nil) == (e == api.OK) {
		t.Fatalf("Compile(%q): %d at %d, want %d at %d", s, got, gotAt, e, at)
	}
	if p != nil && code.Check(p) != api.OK {
		t.Fatalf("Compile(%q): a program that Check refuses: %v", s, p.Code)
	}
	return e
}

// P15.1: the errors of Parse and of Resolve, with their places; of any text.
func TestErrors(t *testing.T) {
	for _, x := range []struct {
		s    string
		at   int
		want api.Errno
	}{
		{"BEGIN{x=}", 8, api.ErrSyntax}, {`{print | "sh"}`, 7, api.ErrBan}, {"BEGIN{system(1)}", 6, api.ErrBan}, {"{srand()}", 1, api.ErrBan}, {`x = "ab`, 4, api.ErrSyntax}, {"{", 1, api.ErrSyntax}, {"/(/", 0, api.ErrSyntax}, {"{substr(1)}", 1, api.ErrSyntax}, {"@", 0, api.ErrSyntax},
		{"BEGIN{a[1]=1;print a}", 19, api.ErrKind}, {"BEGIN{f(1)}", 6, api.ErrKind}, {"BEGIN{next}", 6, api.ErrSyntax}, {"{return}", 1, api.ErrSyntax}, {"{break}", 1, api.ErrSyntax}, {"function f(){next}", 13, api.ErrSyntax}, {"function f(){} function f(){}", 24, api.ErrKind}, {"{NR[1]}", 1, api.ErrKind}, {"function f(a){a[1]} {f(1)}", 21, api.ErrKind}, {"function f(a){} {f(1,2)}", 17, api.ErrKind},
		{strings.Repeat(" ", 4001), 0, api.ErrBig}, {"{" + strings.Repeat("(", 50) + "1" + strings.Repeat(")", 50) + "}", 50, api.ErrDeep}, {"BEGIN{a[1];a} }", 14, api.ErrSyntax},
	} {
		if p, at, e := code.Compile(x.s); p != nil || at != x.at || e != x.want {
			t.Errorf("Compile(%.40q): %d at %d, want %d at %d", x.s, e, at, x.want, x.at)
		}
		checkError(t, x.s)
	}
	r := rand.New(rand.NewSource(21))
	met := map[api.Errno]int{}
	for range 15000 {
		s := []byte(newWriter(r).program())
		for range r.Intn(3) {
			from := r.Intn(len(s))
			to := min(len(s), from+1+r.Intn(4))
			switch r.Intn(4) {
			case 0:
				s = slices.Delete(s, from, to)
			case 1:
				s = slices.Insert(s, from, slices.Clone(s[from:to])...)
			case 2:
				s[from] = "xyzfghmn(){}[];,\n \"/$!<>=+-%|&?:~019#@"[r.Intn(37)]
			default:
				words := []string{" next ", " return ", " break ", " x ", " m ", "f(", "getline", " in m ", " delete "}
				s = slices.Insert(s, from, []byte(words[r.Intn(len(words))])...)
			}
			if len(s) == 0 {
				break
			}
		}
		met[checkError(t, string(s))]++
	}
	for _, e := range []api.Errno{api.OK, api.ErrSyntax, api.ErrBan, api.ErrKind} {
		if met[e] < 50 {
			t.Errorf("error %d is met %d times", e, met[e])
		}
	}
	for range 30000 {
		s := make([]byte, r.Intn(25))
		for i := range s {
			s[i] = "xm1{}();$+=/\"\n [],"[r.Intn(18)]
		}
		checkError(t, string(s))
	}
}

// P15.1: Check takes what is made of the longest texts, however many steps they need for each byte or lay on the stack, and of the deepest ones.
func TestLongAndDeep(t *testing.T) {
	most, things := 0, 0
	for _, x := range [][3]string{
		{"", "a;", ""}, {"", "//;", ""}, {"", "1\n", ""}, {"", "/x/\n", ""}, {"", "$a;", ""}, {"", "//~//;", ""}, {"", "!//;", ""}, {"", "a{}", ""}, {"", "{}", ""}, {"", "BEGIN{}", ""}, {"", "{print}", ""}, {"", "a&&b;", ""},
		{"{", "a;", "}"}, {"{", "print;", "}"}, {"{", "a++;", "}"}, {"{", "a+=b;", "}"}, {"{", "$a++;", "}"}, {"{", "if(a);", "}"}, {"{", "if(a)b;else c;", "}"}, {"{", "while(a)b;", "}"}, {"{", "for(;;);", "}"}, {"{", "for(a;b;c);", "}"}, {"{", "for(k in a);", "}"}, {"{", "next;", "}"}, {"{", "exit;", "}"}, {"{", "delete a;", "}"}, {"{", "delete a[1];", "}"}, {"{", "sub(//,a);", "}"}, {"{", "gsub(a,b,$c);", "}"}, {"{", "sub(//,//,a[//]);", "}"}, {"{", "print//>//;", "}"}, {"{", "length;", "}"}, {"{", "split(a,b,//);", "}"}, {"{", "match(a,//);", "}"}, {"{", "a[b]++;", "}"}, {"{", "rand();", "}"}, {"{", "print a,b>>c;", "}"},
		{"{a", "+//", "}"}, {"{a", "<//\na", "}"}, {"{a", "~//", "}"}, {"{a", "&&b", "}"}, {"{a", "||//", "}"}, {"{a", "&&//||//", "}"}, {"{a", " in b", "}"}, {"{a", " b", "}"}, {"{a", "$b", "}"}, {"{a", "-b", "}"}, {"{a", "[b]c", "}"}, {"{1", "*2", "}"},
		{"{print a", ",b", "}"}, {"{print 1", ",2", ">3}"}, {"{print(a", ",b", ")>>c}"}, {"{printf a", ",//", "}"}, {"{sprintf(a", ",b", ")}"}, {"{sprintf(a", ",sprintf(a,b)", ")}"}, {"{print 1,1,sprintf(a", ",2", ",sprintf(1,1,1,1,1,1))}"},
		{"function f(", "a", "){}"}, {"function f(){", "return;", "}"}, {"function f(){", "f();", "}"}, {"function f(a){a[1]}{", "f(b);", "}"}, {"function f(a,b){b[1]}{", "f(//,c)+f(//,c);", "}"}, {"", "function f", "(){}"},
	} {
		n := (4000 - len(x[0]) - len(x[2])) / len(x[1])
		s := x[0] + strings.Repeat(x[1], n) + x[2]
		s += strings.Repeat(" ", 4000-len(s))
		p, at, e := code.Compile(s)
		if e != api.OK {
			checkError(t, s)
			if e == api.ErrBig || e == api.ErrDeep {
				t.Errorf("Compile(%.40q): %d at %d", s, e, at)
			}
			continue
		}
		if !agree(t, p) {
			t.Errorf("Compile(%.40q): Check refuses %d steps", s, len(p.Code))
		}
		most = max(most, len(p.Code))
		for _, shape := range code.Shapes(p) {
			things = max(things, len(shape.Stack))
		}
	}
	if most < 8000 || things < 1800 {
		t.Errorf("at most %d steps, %d things", most, things)
	}
	var names []string
	for i := range 1200 {
		names = append(names, fmt.Sprintf("%c%d", 'a'+i%26, i/26))
	}
	params, some := strings.Join(names[:900], ","), strings.Join(names[:400], ",")
	for _, s := range []string{"function f(" + params + "){}", "function f(" + some + "){x[1]}{f(" + some + ")}", "BEGIN{" + strings.Join(names[:900], ";") + "}", "BEGIN{" + strings.Join(names[:600], "[1];") + "[1]}"} {
		p, at, e := code.Compile(s)
		if e != api.OK || !agree(t, p) {
			t.Errorf("Compile(%.40q): %d at %d", s, e, at)
		}
	}
}

// P15.1: what stands within one another as deep as it may.
func TestDeepest(t *testing.T) {
	for _, x := range [][3]string{
		{"{", "(", "1)"}, {"{", "{", "}"}, {"{", "if(a)", ""}, {"{", "while(a)", ""}, {"{", "for(;;)", ""}, {"{", "for(k in m)", ""}, {"{", "!", ""}, {"{", "- ", ""}, {"{", "$", ""}, {"{", "a[", "]"}, {"{", "f(", ")"}, {"{", "sprintf(a,", ")"}, {"{", "a?b:", ""}, {"{", "a=", ""}, {"{", "a[1]+=", ""}, {"{", "sub(//,", ",a)"}, {"{", "split(", ",m)"}, {"{for(k in m)", "for(k in m)", ""}, {"{", "if(a);else ", ""}, {"", "(", ")"}, {"", "f(g,m,", ")"},
	} {
		best := 0
		for n := 1; n < 60; n++ {
			end := ";"
			if x[1] == "{" || strings.Contains(x[1], "for") || strings.Contains(x[1], "if") || strings.Contains(x[1], "while") {
				end = ""
			}
			s := x[0] + strings.Repeat(x[1], n) + "1" + strings.Repeat(strings.TrimPrefix(x[2], "1"), n) + end
			if strings.HasPrefix(x[0], "{") {
				s += "}"
			}
			s += "\nfunction f(a,m,b){m[a]}"
			if checkError(t, s) == api.OK {
				best = n
				if p := compiled(t, s); !agree(t, p) {
					t.Errorf("Compile(%q): Check refuses it", s)
				}
			}
		}
		if best < 20 {
			t.Errorf("%s: at most %d within one another", x[1], best)
		}
	}
}

// P15.1: deed by deed what some programs do; 1 and 0 say what is true, and whether there is one more key.
func TestDeeds(t *testing.T) {
	for _, x := range [][3]string{
		{"", "", "stop() stop() stop() stop()"},
		{"BEGIN{x=1}", "", "t1=set 0.8 0(#1) stop() stop() stop() stop()"},
		{"BEGIN{x=a b+1}", "", "t1=get 0.9() t2=get 0.10() t3=binary 0(t2,#1) t4=binary 5(t1,t3) t5=set 0.8 0(t4) stop() stop() stop() stop()"},
		{"BEGIN{a[x]=y;exit}", "", "t1=get 0.9() t2=get 0.10() t3=setelem 0.8 0(t1,t2) exit()"},
		{"BEGIN{$x+=y;exit 2}", "", "t1=get 0.8() t2=get 0.9() t3=setfield 1(t1,t2) exit(#2)"},
		{"BEGIN{x++;--x;$1--;++a[2];exit}", "", "t1=set 0.8 8() t2=set 0.8 7() t3=setfield 9(#1) t4=setelem 0.9 6(#2) exit()"},
		{"/a/", "10", "stop() t1=field(#0) t2=match 0(t1,\"a\") true?(t2) t3=field(#0) print 0(t3) stop() t4=field(#0) t5=match 0(t4,\"a\") false?(t5) stop() stop()"},
		{"$1!~/a/{next} END{print \"b\">\"c\";exit}", "10", "stop() t1=field(#1) t2=match 1(t1,\"a\") true?(t2) next() t3=field(#1) t4=match 1(t3,\"a\") false?(t4) stop() print 1(\"b\",\"c\") exit()"},
		{"BEGIN{x=a&&b;exit}", "1", "t1=get 0.9() true?(t1) t2=get 0.10() t3=bool(t2) t4=set 0.8 0(t3) exit()"},
		{"BEGIN{x=a&&b;exit}", "0", "t1=get 0.9() false?(t1) t2=set 0.8 0(#0) exit()"},
		{"BEGIN{x=a||b;exit}", "1", "t1=get 0.9() true?(t1) t2=set 0.8 0(#1) exit()"},
		{"BEGIN{x=a||b;exit}", "0", "t1=get 0.9() false?(t1) t2=get 0.10() t3=bool(t2) t4=set 0.8 0(t3) exit()"},
		{"BEGIN{a?b:c;exit}", "1", "t1=get 0.8() true?(t1) t2=get 0.9() exit()"},
		{"BEGIN{a?b:c;exit}", "0", "t1=get 0.8() false?(t1) t2=get 0.10() exit()"},
		{"BEGIN{if(a)b;else c;exit}", "0", "t1=get 0.8() false?(t1) t2=get 0.10() exit()"},
		{"BEGIN{while(a)b;exit}", "110", "t1=get 0.8() true?(t1) t2=get 0.9() t3=get 0.8() true?(t3) t4=get 0.9() t5=get 0.8() false?(t5) exit()"},
		{"BEGIN{for(a;b;c){if(d)continue;if(e)break;f};exit}", "110100110", "t1=get 0.8() t2=get 0.9() true?(t2) t3=get 0.11() true?(t3) t4=get 0.10() t5=get 0.9() false?(t5) exit()"},
		{"BEGIN{for(a;b;c){if(d)continue;if(e)break;f};exit}", "1001011", "t1=get 0.8() t2=get 0.9() true?(t2) t3=get 0.11() false?(t3) t4=get 0.12() false?(t4) t5=get 0.13() t6=get 0.10() t7=get 0.9() true?(t7) t8=get 0.11() false?(t8) t9=get 0.12() true?(t9) exit()"},
		{"BEGIN{for(k in a)b;exit}", "10", "iter 0.9() true?(key) t1=key() t2=set 0.8 0(t1) t3=get 0.10() false?(key) drop() exit()"},
		{"BEGIN{for(k in a){if(b)break;continue};exit}", "1011", "iter 0.9() true?(key) t1=key() t2=set 0.8 0(t1) t3=get 0.10() false?(t3) true?(key) t4=key() t5=set 0.8 0(t4) t6=get 0.10() true?(t6) drop() exit()"},
		{"BEGIN{delete a;delete a[1];2 in a;exit}", "", "clear 0.8() delete 0.8(#1) t1=in 0.8(#2) exit()"},
		{"BEGIN{length;length(x);exit}", "", "t1=field(#0) t2=length 1(t1) t3=get 0.8() t4=length 1(t3) exit()"},
		{"BEGIN{sub(/a/,\"b\");exit}", "", "t1=field(#0) t2=sub 0(t1,\"a\",\"b\") t3=setfield 0(#0,t2) t4=hits() exit()"},
		{"BEGIN{gsub(x,y,a[z]);exit}", "", "t1=get 0.11() t2=elem 0.10(t1) t3=get 0.8() t4=get 0.9() t5=sub 1(t2,t3,t4) t6=setelem 0.10 0(t1,t5) t7=hits() exit()"},
		{"BEGIN{split(x,a);split(x,a,\" \");split(x,a,/ /);match(x,/y/);exit}", "", "t1=get 0.8() t2=split 2(t1,array 0.9) t3=get 0.8() t4=split 3(t3,array 0.9,\" \") t5=get 0.8() t6=split 4(t5,array 0.9,\" \") t7=get 0.8() t8=match 2(t7,\"y\") exit()"},
		{"function f(a,b){b[1]=a;return x} BEGIN{y=f(2,m);exit}", "", "call 0(#2,array 0.10) t1=get 1.0() t2=setelem 1.1 0(#1,t1) t3=get 0.8() return(t3) t4=set 0.9 0(t3) exit()"},
		{"BEGIN{f(g());exit} function g(x){x} function f(x){return} ", "", "call 0() t1=get 1.0() return(\"\") call 1(\"\") return(\"\") exit()"},
		{"BEGIN{print;print a,b;printf a;print a>>b;printf(\"x\",a)>b;exit}", "", "t1=field(#0) print 0(t1) t2=get 0.8() t3=get 0.9() print 0(t2,t3) t4=get 0.8() printf 0(t4) t5=get 0.8() t6=get 0.9() print 2(t5,t6) t7=get 0.8() t8=get 0.9() printf 1(\"x\",t7,t8) exit()"},
		{"BEGIN{!a;-a;+a;a%b;a!=b;a>=b;exit}", "", "t1=get 0.8() t2=unary 0(t1) t3=get 0.8() t4=unary 1(t3) t5=get 0.8() t6=unary 2(t5) t7=get 0.8() t8=get 0.9() t9=binary 4(t7,t8) t10=get 0.8() t11=get 0.9() t12=binary 9(t10,t11) t13=get 0.8() t14=get 0.9() t15=binary 11(t13,t14) exit()"},
		{"END{a} BEGIN{b} c{} BEGIN{d} END{exit} {e}", "01", "t1=get 0.9() t2=get 0.11() stop() t3=get 0.10() false?(t3) t4=get 0.12() stop() t5=get 0.10() true?(t5) t6=get 0.12() stop() t7=get 0.8() exit()"},
	} {
		bits := x[1]
		steps, words := traces(t, x[0], 1000, func() func() bool {
			at := -1
			return func() bool { at++; return at < len(bits) && bits[at] == '1' }
		})
		if got := strings.Join(steps.log, " "); got != x[2] || strings.Join(words.log, " ") != x[2] {
			t.Errorf("Compile(%q) does\n%s, want\n%s", x[0], got, x[2])
		}
	}
}

// P15.1: the numbers and texts that a program pushes are those that stand in it.
func TestConstants(t *testing.T) {
	p := compiled(t, `BEGIN{x=1.5 .25 1. 0000000.0000019 99999999999999999999 "a\n" "" 1.50}`)
	for _, n := range []num.Num{1500000, 250000, 1000000, 1, num.Most} {
		if !slices.Contains(p.Nums, n) {
			t.Errorf("numbers: %v, none is %d", p.Nums, n)
		}
	}
	for _, s := range []string{"a\n", ""} {
		if !slices.Contains(p.Strs, s) {
			t.Errorf("texts: %q, none is %q", p.Strs, s)
		}
	}
}

// P15.1: the chapter's examples.
func TestExamples(t *testing.T) {
	if p := compiled(t, "BEGIN{x=1}"); len(p.Globals) != 9 {
		t.Errorf("Globals: %q", p.Globals)
	}
	if p, at, e := code.Compile("BEGIN{x=}"); p != nil || at != 8 || e != api.ErrSyntax {
		t.Errorf("Compile: %d at %d", e, at)
	}
	p := world()
	p.Begin = len(p.Code)
	p.Code = append(p.Code, code.Ins{Op: code.Num}, code.Ins{Op: code.Stop})
	if e := code.Check(p); e != api.ErrForm || len(code.Shapes(p)) != 0 {
		t.Errorf("Check: %d", e)
	}
	p.Code = slices.Insert(p.Code, p.Begin+1, code.Ins{Op: code.Pop})
	if e := code.Check(p); e != api.OK || len(code.Shapes(p)) != len(p.Code) {
		t.Errorf("Check: %d", e)
	}
}
