package vm_test

import (
	"strings"
	"testing"

	"scribe/api"
)

// failing: programs that are over by an error, each behind a 1 that is printed ahead of it; nothing comes behind.
func failing(e api.Errno, statements ...string) []want {
	var l []want
	for _, s := range statements {
		l = append(l, want{"function f(x){print x;return x} BEGIN{print 1;" + s + ";print 2} {print 3} END{print 4}", []string{"a b\n"}, "1\n", 0, e})
		l = append(l, want{"function f(x){print x;return x} function g(i){for(k in m){" + s + "};print 2} {m[1];print 1;g(0);print 3} END{print 4}", []string{"a b\n", "c\n"}, "1\n", 0, e})
	}
	return l
}

// P17.1: ErrRun: by 0 is divided.
func TestByNothing(t *testing.T) {
	try(t, failing(api.ErrRun, "x=1/0", "x=1%0", "x=0/0", "x=1/\"\"", "x=1/y", "x=1/.0000001", "x=5%-0", "x/=0", "x%=0", "$1/=x", "$0%=0", "m[2]/=\"a\"", "m[z]%=m[z]", "NF/=0", "NR%=0", "print 1/0", "print 5,1/0 > \"o\"", "if(1/0);", "while(1%0);", "x=1&&1/0", "x=1?1/0:0", "delete m[1/0]", "x=(1/0) in m", "x=length(1/0)", "exit 1%0", "x=m[1/0]"))
	try(t, []want{
		{"BEGIN{x=0&&1/0;x=1||1/0;x=1?2:1/0;x=0?1/0:3;print x,0/1,0%1}", nil, "3 0 0\n", 0, api.OK},
		// What stands ahead of it is done, what stands behind it isn't.
		{"function f(x){print x;return x} BEGIN{f(1)/f(0)+f(2)}", nil, "1\n0\n", 0, api.ErrRun},
		{"function f(x){print x;return x} BEGIN{x[f(1)]/=f(0)}", nil, "1\n0\n", 0, api.ErrRun},
		{"{print $1/$2}", []string{"4 2\n9 2\n1 0\n1 1\n"}, "2\n4.5\n", 0, api.ErrRun},
	})
}

// P17.1: ErrRun: what isn't a pattern, in each place where one may stand.
func TestNoPattern(t *testing.T) {
	for _, bad := range []string{`"a("`, `"a**)"`, `("(" substr("x",1,1))`, `sprintf("%301s","a")`, `"((((((((((((((((((((("`, `"[z-a]"`} {
		for _, s := range []string{"x=\"a\"~@", "x=\"a\"!~@", "x=$0~@", "x=\"\"~@", "x=match(\"a\",@)", "sub(@,\"b\")", "gsub(@,\"b\",x)", "sub(@,\"b\",m[1])", "gsub(@,\"\",$2)", "x=split(\"a\",n,@)", "FS=@;$0=\"x\"", "FS=@;x=split(\"a\",n)", "FS=@;sub(/$/,\"b\")"} {
			try(t, failing(api.ErrRun, strings.ReplaceAll(s, "@", bad)))
		}
	}
	// One byte parts by itself in split, and isn't asked to be a pattern; elsewhere it is.
	for _, bad := range []string{`"("`, `"["`, `"\\"`, `"*"`} {
		for _, s := range []string{"x=\"a\"~@", "x=match(\"a\",@)", "sub(@,\"b\")", "gsub(@,\"b\",m[1])"} {
			try(t, failing(api.ErrRun, strings.ReplaceAll(s, "@", bad)))
		}
	}
	try(t, []want{
		{"{print;FS=\"a(\"}", []string{"1\n2\n"}, "1\n", 0, api.ErrRun},
		{"{print;FS=\"a(\"}", []string{"1\n"}, "1\n", 0, api.OK},
		{"{print;FS=\"a(\"}", []string{"1\n\n\n"}, "1\n\n\n", 0, api.OK},
		{"BEGIN{FS=\"(\"} {print $2} END{print split(\"a[b\",m,\"[\"),split(\"\",m,\"((\")}", []string{"1(2\n"}, "2\n2 0\n", 0, api.OK},
		{"BEGIN{print \"(\"~/\\(/,\"a\"~\"\",sub(\"\",\"x\",y),y}", nil, "1 1 1 x\n", 0, api.OK},
		{"BEGIN{x=sprintf(\"%300s\",\"a\");print x~x;x=x \" \";print x~x}", nil, "1\n", 0, api.ErrRun},
	})
}

// P17.1: ErrRun: each error of format.Print, which may come of more than 4000 bytes, too.
func TestNoFormat(t *testing.T) {
	try(t, failing(api.ErrRun, `printf "%"`, `printf "%q"`, `printf "a%5"`, `printf "%1001d",1`, `printf "%.1001s","a"`, `printf "%1000d%1000d%1000d%1000d%d",1,2,3,4,5`, `x=sprintf("%")`, `x=sprintf("%z",1)`, `x=sprintf("%1001s")`, `x=sprintf("%s%1000s%1000s%1000s%1000s","a")`, `printf "%z" > "o"`, `printf "%z" >> "#"`))
}

// P17.1: ErrRun of a field's number below 0, ErrSize of one above 500, wherever it is asked, and when.
func TestFieldNumbers(t *testing.T) {
	for number, e := range map[string]api.Errno{"(-1)": api.ErrRun, "(-1.5)": api.ErrRun, "(\"-2x\")": api.ErrRun, "501": api.ErrSize, "501.5": api.ErrSize, "(99999999999999999999)": api.ErrSize, "(-99999999999999999999)": api.ErrRun} {
		for _, s := range []string{"x=$@", "$@=1", "$@=\"\"", "$@++", "--$@", "$@+=2", "sub(/a/,\"b\",$@)", "gsub(/z/,\"b\",$@)", "NF=@"} {
			try(t, failing(e, strings.ReplaceAll(s, "@", number)))
		}
	}
	try(t, []want{
		{"{print $500 $(-.9),$(0.5);$500=\"x\";print NF,length()}", []string{"a b\n"}, "a b a b\n500 502\n", 0, api.OK},
		{"{NF=500;print NF,$500 \"|\";NF=500.9;print NF;NF=-.5;print NF}", []string{"a b\n"}, "500 |\n500\n0\n", 0, api.OK},
		// Where a value is laid, its number is asked behind the value; where a pattern is looked for, ahead of it.
		{"function f(x){print x;return x} {$(f(-1))=f(2)}", []string{"a\n"}, "-1\n2\n", 0, api.ErrRun},
		{"function f(x){print x;return x} {$(f(501))+=f(2)}", []string{"a\n"}, "501\n2\n", 0, api.ErrSize},
		{"function f(x){print x;return x} {sub(f(1),f(2),$(f(-1)))}", []string{"a\n"}, "-1\n", 0, api.ErrRun},
		{"function f(x){print x;return x} {sub(f(1),f(2),$(f(501)))}", []string{"a\n"}, "501\n", 0, api.ErrSize},
	})
}

// P17.1: ErrRun of a file's name that the output refuses; what was printed to others stays.
func TestRefusedNames(t *testing.T) {
	try(t, failing(api.ErrRun, `print 5 > ""`, `print 5 >> ""`, `printf "5" > "#x"`, `print > "#"`, `printf "" >> "#"`, `print "" > x`))
	for _, s := range []string{`BEGIN{print 1 > "a";print 2 >> "b";print 3 > "#";print 4 > "a"}`, `BEGIN{print 1 > "a";print 2 > "b";printf "x" >> "";print 3}`} {
		got, _ := played(t, s, nil)
		if got.files["a"] != "1\n" || got.files["b"] != "2\n" || len(got.files) != 2 || got.err != api.ErrRun || !got.over {
			t.Errorf("%q: %q, %d", s, got.files, got.err)
		}
	}
	// A print's text that is too long is told ahead of a name that is refused; a format ahead of both is ErrRun all the same.
	try(t, failing(api.ErrSize, `x=sprintf("%1000s%1000s%1000s%1000s");print x,1 > "#"`, `x=sprintf("%1000s%1000s%1000s%1000s");print x > ""`))
	try(t, failing(api.ErrRun, `x=sprintf("%1000s%1000s%1000s%999s");print x > "#"`, `x=sprintf("%1000s%1000s%1000s%1000s");printf x "1" > "#"`)[:2])
}

// P17.1: more than 100 calls within one another are too many.
func TestDeepCalls(t *testing.T) {
	try(t, []want{
		{"function f(n){if(n>1)f(n-1);d++} BEGIN{f(100);print d;f(100);print d;f(101);print d}", nil, "100\n200\n", 0, api.ErrDeep},
		{"function f(n){print n;return n>1?f(n-1)+1:1} BEGIN{for(i=0;i<95;i++)g();print f(3)} function g(){return f(0)}", nil, strings.Repeat("0\n", 95) + "3\n2\n1\n3\n", 0, api.OK},
		{"function f(n){return n>0?g(n-1)+1:0} function g(n){return f(n)+1} {print f($1)}", []string{"49\n50\n9\n"}, "98\n", 0, api.ErrDeep},
		{"function f(n){f(n+1)} BEGIN{f(0)} END{print 1}", []string{"a\n"}, "", 0, api.ErrDeep},
		{"function f(a,n){a[n];if(n<100)f(a,n+1);else print n} BEGIN{f(m,1);n=0;for(k in m)n++;print n}", nil, "100\n100\n", 0, api.OK},
		// What a call is handed is evaluated ahead of it.
		{"function f(n){if(n<100)f(n+1);else f(g(n))} function g(n){print n} BEGIN{f(1)}", nil, "", 0, api.ErrDeep},
		{"function f(n){if(n<100)f(n+1);else f(x=n)} BEGIN{f(1)} END{print x}", nil, "", 0, api.ErrDeep},
		{"function f(n){if(n<99)f(n+1);else f(g(n))} function g(n){print n;return 99} BEGIN{f(1)}", nil, "99\n", 0, api.ErrDeep},
	})
}
