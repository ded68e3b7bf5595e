package vm_test

import (
	"strings"
	"testing"

	"scribe/api"
	"scribe/code"
	"scribe/vm"
)

// full: x is a text of 4000 bytes, y of one.
const full = `x=sprintf("%1000s%1000s%1000s%1000s","","","","");y="z";`

// P17.1: a text of 4000 bytes may be made, by each thing that makes one; one more is too much.
func TestTextSize(t *testing.T) {
	try(t, failing(api.ErrSize,
		full+"x=x y", full+"x=y x", full+"x=x 1", full+"x=x x", full+"OFS=x y", full+"$1=x;$2=y", full+"$0=x;$1=y;OFS=x;$2=\"\"", full+"OFS=x;$2=\"\";$3=y", full+"OFS=x;NF=3", full+"x=x=x y",
		full+"sub(/$/,y,x)", full+"sub(/^/,y,x)", full+"gsub(/^/,y,x)", full+"sub(/ /,\"&z\",x)", full+"gsub(/ /,\"&&\",x)", full+"gsub(/ /,x,x)", full+"sub(/ *$/,\"&&\",x)",
		full+"$1=x;gsub(/ $/,\"zz\",$1)", full+"$0=x;gsub(/^/,y)", full+"m[1]=x;sub(/$/,y,m[1])", full+"m[x]=x;for(k in m)y=k y",
	))
	try(t, []want{
		{"BEGIN{" + full + "print length(x \"\"),length(substr(x,1) \"\"),length(tolower(x)),length(toupper(x)),length(sprintf(\"%s\",x)),sub(/ /,y,x),gsub(/ /,y,x),length(x)}", nil, "4000 4000 4000 4000 4000 1 3999 4000\n", 0, api.OK},
		{"BEGIN{" + full + "$1=x;print length(),NF;$0=x;print length(),NF;$3=y;print length();$0=\"\";OFS=substr(x,2);$2=y;print length();NF=1;NF=2;print length();OFS=\"-\";m[x]=x;for(k in m)print length(k),length(m[k])}", nil, "4000 1\n4000 0\n3\n4000\n3999\n4000-4000\n", 0, api.OK},
		{"BEGIN{" + full + "gsub(/ /,\"\",x);print length(x);x=sprintf(\"%1000s%1000s\",1,1);gsub(/ /,\"&&\",x);print length(x);gsub(/ /,\"&\",x);print length(x);sub(/1/,\"111\",x);print length(x)}", nil, "0\n3998\n3998\n4000\n", 0, api.OK},
		// As sprintf makes it, it is an error of format.Print.
		{"BEGIN{" + full + "print 1;x=sprintf(\"%s%s\",x,y)}", nil, "1\n", 0, api.ErrRun},
	})
}

// P17.1: as much may be printed at once, with what stands between and behind.
func TestPrintedSize(t *testing.T) {
	sheet, _ := played(t, "BEGIN{"+full+"printf x;printf \"%s\",x > \"a\";ORS=\"\";print x > \"b\";print substr(x,3),y > \"c\";OFS=substr(x,3);print y,y > \"d\";ORS=x;print \"\" > \"e\";print > \"f\";$0=x;ORS=\"\";print > \"g\"}", nil)
	if sheet.err != api.OK || len(sheet.files) != 8 {
		t.Errorf("%d files, %d", len(sheet.files), sheet.err)
	}
	for name, s := range sheet.files {
		if len(s) != 4000 {
			t.Errorf("%s has %d bytes", name, len(s))
		}
	}
	try(t, failing(api.ErrSize, full+"print x", full+"ORS=\"\";print x,\"\"", full+"ORS=\"\";print x y", full+"ORS=x;print y", full+"OFS=x;ORS=\"\";print \"\",y", full+"$0=x;print", full+"ORS=x y;print \"\"", full+"print x > \"o\"", full+"print x >> \"o\"", full+"OFS=\"\";print substr(x,2),y", "for(i=0;i<400;i++)x=x \"abcdefghij\";print x"))
	long := strings.Repeat("x", 3999)
	try(t, []want{{"{print}", []string{long + "\n" + long + "x\n"}, long + "\n", 0, api.ErrSize}, {"1", []string{"a\n" + long + "x\n"}, "a\n", 0, api.ErrSize}, {"{print substr($0,2)}", []string{"a\n" + long + "x\n"}, "\n" + long + "\n", 0, api.OK}})
}

// P17.1: a record may have 4000 bytes and 500 fields, and no more.
func TestRecordSize(t *testing.T) {
	long := strings.Repeat("ab ", 1333)
	try(t, []want{
		{"BEGIN{FS=\",\"} {print length()}", []string{long + "x\n" + long + "\n"}, "4000\n3999\n", 0, api.OK},
		{"BEGIN{FS=\",\"} {print length()} END{print NR}", []string{"a\n" + long + "xx\n", "b"}, "1\n", 0, api.ErrSize},
		{"BEGIN{FS=\",\"} {print length()} END{print NR}", []string{"a\n", long + "xx"}, "1\n", 0, api.ErrSize},
		{"BEGIN{FS=\",\"} END{print NR}", []string{strings.Repeat("x", 1<<20)}, "", 0, api.ErrSize},
		{"{print NF}", []string{strings.Repeat("a ", 500) + "\n" + strings.Repeat("a ", 501)}, "500\n", 0, api.ErrSize},
		{"BEGIN{FS=\",\"} {print NF}", []string{strings.Repeat(",", 499) + "\n" + strings.Repeat(",", 500)}, "500\n", 0, api.ErrSize},
		{"BEGIN{x=sprintf(\"%500s\",\"\");gsub(/ /,\"a \",x);$0=x;print NF;print split(x,m);$0=x \"b\";print NF}", nil, "500\n500\n", 0, api.ErrSize},
		{"BEGIN{x=sprintf(\"%500s\",\"\");print split(x,m,\"x\");print split(x,m,\"  \");gsub(/ /,\"a,\",x);print split(x,m,/b/);print split(x,m,\",\")}", nil, "1\n251\n1\n", 0, api.ErrSize},
		{"BEGIN{x=sprintf(\"%500s\",\"\");FS=\"x\";$0=x;print NF;FS=\" *a*\";print split(x \"b\",m);gsub(/ /,\"a,\",x);FS=\",\";sub(/a/,\"b\",x);$0=x;print NF}", nil, "1\n2\n", 0, api.ErrSize},
	})
}

// P17.1: all arrays together have 4000 keys at most.
func TestCells(t *testing.T) {
	try(t, []want{
		{"BEGIN{for(i=0;i<4000;i++)m[i];print i;m[3999]=1;m[0]++;print m[5],4000 in m;m[4000];print 1}", nil, "4000\n 0\n", 0, api.ErrSize},
		{"BEGIN{for(i=0;i<4000;i++)m[i]=i;print i;delete m[7];m[\"x\"]=1;print 1;m[\"y\"]=1;print 2}", nil, "4000\n1\n", 0, api.ErrSize},
		{"BEGIN{for(i=0;i<2000;i++){m[i]++;n[i]+=2};print i;x=n[2000];print 1}", nil, "2000\n", 0, api.ErrSize},
		{"BEGIN{for(i=0;i<1999;i++){m[i];n[i]};l[1];print split(\"a\",l);l[1]=2;print split(\"a b\",n);for(i=0;i<1997;i++)l[i \"x\"]=1;print i;print split(\"a b c\",l);print split(\"a b c d\",n)}", nil, "1\n2\n1997\n3\n4\n", 0, api.OK},
		{"BEGIN{for(i=0;i<3998;i++)m[i];print split(\"a b\",n);print split(\"c\",n);print split(\"a b\",n);print split(\"a b c\",n)}", nil, "2\n1\n2\n", 0, api.ErrSize},
		{"BEGIN{for(i=0;i<4000;i++)m[i];print split(\"a b\",m);for(i=0;i<3998;i++)n[i];print 1;sub(/a/,\"b\",n[5]);print 2;sub(/a/,\"b\",n[\"x\"]);print 3}", nil, "2\n1\n2\n", 0, api.ErrSize},
		{"BEGIN{for(i=0;i<4000;i++)m[i];delete m;for(i=0;i<4000;i++)n[i];print 1;m[\"x\"]--}", nil, "1\n", 0, api.ErrSize},
		{"BEGIN{for(i=0;i<4000;i++)m[i];delete m[\"x\"];print 4000 in m;delete m[1];delete m[1];m[1];print 1;m[\"y\"]}", nil, "0\n1\n", 0, api.ErrSize},
		// Those of a call go with it.
		{"function f(n,a){for(i=0;i<n;i++)a[i];return i} BEGIN{m[1];print f(3999);print f(3999);m[2];print f(3998);print f(3999)}", nil, "3999\n3999\n3998\n", 0, api.ErrSize},
		{"function f(n,a){a[1];a[2];if(n>1)return f(n-1);for(i=0;i<l;i++)a[i \"x\"];return i} BEGIN{l=3800;print f(100);print f(1);l=3998;print f(1);l=3801;print f(100)}", nil, "3800\n3800\n3998\n", 0, api.ErrSize},
		{"function f(a,n){for(i=0;i<n;i++)a[i];return i} BEGIN{print f(m,2000);print f(m,2000);print f(n,2000);print f(m,2001)}", nil, "2000\n2000\n2000\n", 0, api.ErrSize},
	})
}

// P17.1: an input's name has no bound; what is made of it has.
func TestLongName(t *testing.T) {
	in := []vm.File{{Name: strings.Repeat("n", 5000), Text: "a\nb\n"}}
	for s, e := range map[string]api.Errno{
		"{print length(FILENAME);x=FILENAME;m[x]=x;y=substr(x,1002);print length(y)}": api.OK,
		"{x=FILENAME \"\"}": api.ErrSize, "{print FILENAME}": api.ErrSize, "{$0=FILENAME}": api.ErrSize, "{$1=FILENAME}": api.ErrSize, "{x=tolower(FILENAME)}": api.ErrSize, "{x=substr(FILENAME,2)}": api.ErrSize, "{sub(/n/,\"\",FILENAME)}": api.ErrSize, "{x=sprintf(\"%s\",FILENAME)}": api.ErrRun, "{sub(/x/,\"\",FILENAME)}": api.OK,
	} {
		got, steps := played(t, s, in)
		if got.err != e || !got.over {
			t.Errorf("%q: %d, %v", s, got.err, got.over)
		}
		if e == api.OK {
			checkPieces(t, s, in, got, steps, 3)
		}
	}
}

// P17.1: what a program pushes may be longer than a text that is made (only such as no text has).
func TestLongConstant(t *testing.T) {
	p, _, _ := code.Compile("BEGIN{x=\"a\";print length(x);y=x x}")
	for i, s := range p.Strs {
		if s == "a" {
			p.Strs[i] = strings.Repeat("a", 2500)
		}
	}
	out := sheets{}
	m := vm.New(p, nil, out.output())
	m.Run(100)
	if _, e := m.Code(); e != api.ErrSize || out["stdout"] != "2500\n" {
		t.Errorf("%d, %q", e, out)
	}
}

// P17.1: one print may name a great many values.
func TestManyValues(t *testing.T) {
	list := strings.Repeat("1,", 999) + "1"
	try(t, []want{
		{"BEGIN{print " + list + "}", nil, strings.Repeat("1 ", 999) + "1\n", 0, api.OK},
		{"BEGIN{OFS=\"\";print(" + list + ")}", nil, strings.Repeat("1", 1000) + "\n", 0, api.OK},
		{"BEGIN{printf \"%d%d%d\"," + list + "}", nil, "111", 0, api.OK},
		{"BEGIN{print length(sprintf(\"%1000s%s%s\"," + list + "))}", nil, "1002\n", 0, api.OK},
	})
}
