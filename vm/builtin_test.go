package vm_test

import (
	"strings"
	"testing"

	"scribe/api"
)

// printed: programs that print a list of values, and what that is.
func printed(l ...[2]string) []want {
	var out []want
	for _, x := range l {
		out = append(out, want{"{print " + x[0] + "}", []string{"one two 3.0\n"}, x[1] + "\n", 0, api.OK})
	}
	return out
}

// P17.1: length, substr and index.
func TestTexts(t *testing.T) {
	try(t, printed([][2]string{
		{"length,length(),length($0),length(\"\"),length(u),length(12.50),length(-1),length($3),length(\"a\\nb\"),length($9)", "11 11 11 0 0 4 2 3 3 0"},
		{"length length(\"ab\") $1", "112one"},
		{"substr(\"hello\",2),substr(\"hello\",1),substr(\"hello\",5),substr(\"hello\",6) \"|\",substr(\"hello\",99) \"|\",substr(\"hello\",0),substr(\"hello\",-7),substr(\"\",1) \"|\"", "ello hello o | | hello hello |"},
		{"substr(\"hello\",2,3),substr(\"hello\",1,99),substr(\"hello\",5,1),substr(\"hello\",5,2),substr(\"hello\",6,1) \"|\",substr(\"hello\",2,0) \"|\",substr(\"hello\",2,-1) \"|\"", "ell hello o o | | |"},
		{"substr(\"hello\",0,2),substr(\"hello\",0,1) \"|\",substr(\"hello\",-1,3),substr(\"hello\",-1,2) \"|\",substr(\"hello\",-3,99),substr(\"hello\",-3,-1) \"|\"", "h | h | hello |"},
		{"substr(\"hello\",1.9),substr(\"hello\",2.1,1.9),substr(\"hello\",.9,2),substr(\"hello\",-.9,2),substr(\"hello\",\"2x\",\"2\"),substr(\"hello\",u,3)", "hello e h h el he"},
		{"substr(\"hello\",99999999999999,99999999999999) \"|\",substr(\"hello\",-99999999999999,99999999999999) \"|\",substr(\"hello\",-99999999999999),substr(\"hello\",2,99999999999999),substr(\"hello\",2,-99999999999999) \"|\"", "| | hello ello |"},
		{"substr(12345,2,2)+1,substr($0,5,3)==\"two\",substr($3,1,1)==3", "24 1 1"},
		{"index(\"abcabc\",\"c\"),index(\"abcabc\",\"ca\"),index(\"abc\",\"d\"),index(\"abc\",\"abcd\"),index(\"\",\"a\"),index(\"abc\",\"abc\"),index(12.5,\".\"),index($0,\" \"),index(\"aab\",\"ab\")", "3 3 0 0 0 1 3 4 2"},
		{"index(\"abc\",\"\"),index(\"\",\"\"),index(u,u)", "1 1 1"},
	}...))
}

// P17.1: split by each kind of separator, into an array that has keys.
func TestSplit(t *testing.T) {
	show := ";for(k in m)printf \"%s=%s,\",k,m[k];print \"\""
	for _, x := range [][2]string{
		{"split(\" a  b\\tc\\nd \",m)", "4|1=a,2=b,3=c,4=d,\n"}, {"split(\"\",m)", "0|\n"}, {"split(\"  \",m)", "0|\n"}, {"split(\"  \",m,/ /)", "3|1=,2=,3=,\n"}, {"split(\"abc\",m)", "1|1=abc,\n"}, {"split(12.50,m)", "1|1=12.5,\n"},
		{"split(\"a b\",m,\" \")", "2|1=a,2=b,\n"}, {"split(\"a  b\",m,/ /)", "3|1=a,2=,3=b,\n"}, {"split(\"a,,b,\",m,\",\")", "4|1=a,2=,3=b,4=,\n"}, {"split(\"a.b\",m,\".\")", "2|1=a,2=b,\n"}, {"split(\"a.b\",m,/./)", "4|1=,2=,3=,4=,\n"}, {"split(\"a|b|c\",m,\"|\")", "3|1=a,2=b,3=c,\n"},
		{"split(\"a1b22c\",m,/[0-9]+/)", "3|1=a,2=b,3=c,\n"}, {"split(\"a1b22c\",m,\"[0-9]+\")", "3|1=a,2=b,3=c,\n"}, {"split(\"axxb\",m,\"xx\")", "2|1=a,2=b,\n"}, {"split(\"abc\",m,\"\")", "1|1=abc,\n"}, {"split(\"abc\",m,//)", "1|1=abc,\n"}, {"split(\"abc\",m,/x*/)", "1|1=abc,\n"}, {"split(\"a1b\",m,1)", "2|1=a,2=b,\n"}, {"split(\"a b\",m,u)", "1|1=a b,\n"}, {"split(\"a b\",m,FS=\"b\")", "2|1=a ,2=,\n"},
	} {
		for _, first := range []string{"", "m[\"old\"]=5;m[2]=6;", "m[1];"} {
			try(t, []want{{"BEGIN{" + first + "printf \"%s|\"," + x[0] + show + "}", nil, x[1], 0, api.OK}})
		}
	}
	try(t, []want{
		{"BEGIN{m[1]=\"a b\";print split(m[1],m),m[1],m[2];print split(m[3],m);for(k in m)print k}", nil, "2 a b\n0\n", 0, api.OK},
		{"function f(a){return split(\"p q\",a)} BEGIN{print f(m),m[2];x=split(\"r\",m);print 2 in m}", nil, "2 q\n0\n", 0, api.OK},
		{"BEGIN{FS=\",\";print split(\"a,b c\",m) m[2];FS=\"[b]+\";print split(\"abbc\",m) m[2];FS=\"\";print split(\"a b\",m)}", nil, "2b c\n2c\n1\n", 0, api.OK},
		{"BEGIN{split(\"10 9 1x\",m);print (m[1]>m[2]),(m[1]>m[3]),m[1]==10.0}", nil, "1 0 1\n", 0, api.OK},
	})
}

// P17.1: match, and what it lays in RSTART and RLENGTH.
func TestMatch(t *testing.T) {
	for _, x := range [][2]string{
		{"match(\"xaab\",/a+/)", "2 2 2"}, {"match(\"xaab\",\"a+\")", "2 2 2"}, {"match(\"abc\",/z/)", "0 0 -1"}, {"match(\"abc\",//)", "1 1 0"}, {"match(\"\",/a*/)", "1 1 0"}, {"match(\"\",/a/)", "0 0 -1"}, {"match(\"abab\",/b$/)", "4 4 1"}, {"match(\"abc\",/$/)", "4 4 0"}, {"match(\"ab\",/a|ab/)", "1 1 2"}, {"match(12.5,\".\")", "1 1 1"}, {"match(12.5,\"\\\\.\")", "3 3 1"}, {"match(u,u)", "1 1 0"}, {"match($0,$2)", "5 5 3"}, {"match(\"aXbX\",/X.*X/)", "2 2 3"},
	} {
		try(t, []want{{"{RSTART=\"r\";r=" + x[0] + ";print r,RSTART,RLENGTH}", []string{"one two 3\n"}, x[1] + "\n", 0, api.OK}})
	}
	try(t, []want{{"BEGIN{print RSTART RLENGTH \"|\";RSTART=5;RLENGTH=\"x\";print RSTART RLENGTH;s=\"foo=bar\";if(match(s,/=.*/))print substr(s,RSTART+1,RLENGTH-1);print s~/o/,RSTART}", nil, "|\n5x\nbar\n1 4\n", 0, api.OK}})
}

// P17.1: sub and gsub: what is met, what it is replaced by, and the place.
func TestReplace(t *testing.T) {
	for _, x := range [][3]string{ // the text, pattern and replacement; what sub makes of it, and gsub
		{`"hello",/l/,"L"`, "1heLlo", "2heLLo"}, {`"hello",/z/,"L"`, "0hello", "0hello"}, {`"hello",/l+/,"<&>"`, "1he<ll>o", "1he<ll>o"}, {`"hello",/x*/,"-"`, "1-hello", "6-h-e-l-l-o-"}, {`"abc",//,"&."`, "1.abc", "4.a.b.c."}, {`"",//,"x"`, "1x", "1x"}, {`"",/a/,"x"`, "0", "0"}, {`"baac",/a*/,"x"`, "1xbaac", "3xbxcx"}, {`"aaa",/^a/,"b"`, "1baa", "1baa"}, {`"aaa",/a$/,"b"`, "1aab", "1aab"}, {`"abab",/ab|b/,""`, "1ab", "2"}, {`"a.b.c",".","x"`, "1x.b.c", "5xxxxx"}, {`"a.b.c","\\.","x"`, "1axb.c", "2axbxc"}, {`"abc",/b/,"&&"`, "1abbc", "1abbc"}, {`"abab",/b/,"[&]"`, "1a[b]ab", "2a[b]a[b]"},
		// In a text a backslash is two; one ahead of & or of itself lets that stand for itself, others are bytes like others.
		{`"abc",/b/,"\\&"`, "1a&c", "1a&c"}, {`"abc",/b/,"\\\\&"`, `1a\bc`, `1a\bc`}, {`"abc",/b/,"\\\\\\&"`, `1a\&c`, `1a\&c`}, {`"abc",/b/,"\\\\"`, `1a\c`, `1a\c`}, {`"abc",/b/,"\\\\\\\\&"`, `1a\\bc`, `1a\\bc`}, {`"abc",/b/,"\\"`, `1a\c`, `1a\c`}, {`"abc",/b/,"\\x&\\"`, `1a\xb\c`, `1a\xb\c`}, {`"abc",/b/,"&\\\\&\\&&"`, `1ab\b&bc`, `1ab\b&bc`}, {`"abc",/b/,"x\\n\n"`, "1ax\\n\nc", "1ax\\n\nc"}, {`"a&c",/&/,"\\&\\&"`, "1a&&c", "1a&&c"}, {`"abc",/b/,u`, "1ac", "1ac"}, {`"abc",/b/,1.50`, "1a1.5c", "1a1.5c"}, {`12321,2,"x"`, "11x321", "21x3x1"},
	} {
		for i, name := range []string{"sub", "gsub"} {
			text, rest, _ := strings.Cut(x[0], ",")
			for _, place := range []string{"v", "m[5]", "$2", "$0", "f", "OFS"} {
				source := "function g(f,r){f=" + text + ";r=" + name + "(" + rest + ",f);printf \"%s%s\",r,f} {"
				if place == "f" {
					source += "g()}"
				} else {
					source += place + "=" + text + ";r=" + name + "(" + rest + "," + place + ");printf \"%s%s\",r," + place + "}"
				}
				try(t, []want{{source, []string{"p q\n"}, x[1+i], 0, api.OK}})
			}
		}
	}
}

// P17.1: the place of sub and gsub: the record without one; a value that isn't met stays what it is, and is laid.
func TestReplacedPlace(t *testing.T) {
	try(t, []want{
		{"{OFS=\"-\";print sub(/q/,\"z\",$1);print;FS=\"-\";print sub(/q/,\"z\");print NF}", []string{"a b\n"}, "0\na-b\n0\n2\n", 0, api.OK},
		{"{print sub(/q/,\"z\",NF),NF;print sub(/2/,\"3\",NF),NF;print;print gsub(/q*/,\"\",x),x==0,sub(/q/,\"\",y),y==0}", []string{"a b\n"}, "0 2\n1 3\na b \n1 0 0 1\n", 0, api.OK},
		{"{sub(/z/,\"\",$1);x=sub(/z/,\"\",$3);print $1==1,$1<\"2\",x,NF}", []string{"1.0 2\n"}, "1 1 0 3\n", 0, api.OK},
		{"BEGIN{m[\"k\"]=5;sub(/z/,\"\",m[\"k\"]);print m[\"k\"]<10;sub(/5/,\"5\",m[\"k\"]);print m[\"k\"]<10,m[\"k\"]==5;n=5;sub(/$/,\".0\",n);print n==5,n==\"5.0\"}", nil, "1\n0 1\n0 1\n", 0, api.OK},
		// The value is read ahead of the pattern and the text, and laid behind them.
		{"function f(){x=\"new\";return \"o\"} BEGIN{x=\"old\";print sub(f(),\"0\",x),x;x=\"old\";print sub(\"z\",f(),x),x}", nil, "1 0ld\n0 old\n", 0, api.OK},
		{"function f(){delete m;m[2]=7;return \"a\"} BEGIN{m[1]=\"abc\";print gsub(f(),\"x\",m[1]);for(k in m)print k,m[k]}", nil, "1\n2 7\n1 xbc\n", 0, api.OK},
		{"BEGIN{i=1;m[1]=\"a\";m[2]=\"a\";sub(/a/,i=2,m[i]);print m[1],m[2],i;b=\"b\";m[2]=\"a\";print sub(/a/,sub(/b/,\"c\",b) \"x\",m[2]),m[2],b}", nil, "2 a 2\n1 1x c\n", 0, api.OK},
		{"{print sub(/b/,\"x y\"),$0,NF,$2;print gsub(/[a-z]/,\"<&>\"),$0,NF}", []string{"abc d\n"}, "1 ax yc d 3 yc\n5 <a><x> <y><c> <d> 3\n", 0, api.OK},
		{"{sub(/a/,\"z\",$2);print;print NF;gsub(/ */,\"\",$1);print}", []string{"a  a\n"}, "a z\n2\na z\n", 0, api.OK},
		{"{OFS=\"-\";print sub(/q/,\"z\",$4);print;print NF,length($4),$4==0}", []string{"a b\n"}, "0\na-b--\n4-0-1\n", 0, api.OK},
		{"{$2=\"a a\";print gsub(/a/,gsub(/b/,\"c\") \"\",$2),$0,NF}", []string{"b b\n"}, "2 c 1 1 a 3\n", 0, api.OK},
	})
}

// P17.1: the others, with each count of values that they may have.
func TestOthers(t *testing.T) {
	try(t, printed([][2]string{
		{"tolower(\"ABCxyzAZ@[`{\") toupper(\"abcXYZaz@[`{\")", "abcxyzaz@[`{ABCXYZAZ@[`{"},
		{"tolower(\"\\\\ \") toupper(\"\u00e4\u00c4\xff\xc3\") tolower(\"\u00c4\xe0\") toupper(12.50) tolower(u)", "\\ \u00e4\u00c4\xff\xc3\u00c4\xe012.5"},
		{"int(2.9),int(-2.9),int(-.5),int(\"3x\"),int(u),int(\" -4.2 \"),int(99999999999999),int(-99999999999999),int(7)", "2 -2 0 3 0 -4 4611686018427 -4611686018427 7"},
		{"sprintf(\"a\"),sprintf(\"%d\",2.9),sprintf(\"%s|%s|\",1),sprintf(\"%5.2f|%-4d|%04d|%x|%.2s|%c%%\",-1.239,7,-7,255,\"abc\",\"xy\")", "a 2 1|| -1.23|7   |-007|ff|ab|x%"},
		{"sprintf(1.50) sprintf(\"%s%s\",$1,$3) sprintf(\"\") length(sprintf(u))", "1.5one3.00"},
		{"sprintf(\"%c%c%c\",65,\"BC\",$3)", "AB3"},
	}...))
	try(t, []want{
		{"BEGIN{print rand(),rand(),rand(),rand(),rand()}", nil, "0.951807 0.396424 0.921937 0.605236 0.830125\n", 0, api.OK},
		{"BEGIN{print srand(1),rand(),rand(),rand();print srand(-1.5),rand(),rand(),rand();print srand(99999999999999),rand(),rand();print srand(\"0x\"),rand();print srand(u),rand(),srand(5),srand(6)}", nil, "0 0.041385 0.24069 0.119548\n1 0.301088 0.113674 0.125519\n-1.5 0.4234 0.203255\n4611686018427.387903 0.951807\n0 0.951807 0 5\n", 0, api.OK},
		{"BEGIN{print rand();print srand(0),rand();x=srand(3);a=rand();b=rand();srand(3);print a==rand(),b==rand(),a==b,srand(0)==3}", nil, "0.951807\n0 0.951807\n1 1 0 1\n", 0, api.OK},
		{"BEGIN{for(i=0;i<1000;i++){r=rand();if(r<0||r>=1)bad++;s+=r};print bad+0,(s>450),s<550}", nil, "0 1 1\n", 0, api.OK},
	})
}
