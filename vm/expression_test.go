package vm_test

import (
	"strings"
	"testing"

	"scribe/api"
)

// say: f tells what it is asked of, and is it.
const say = "function f(x){printf \"%s.\",x;return x} "

// P17.1: parts are evaluated from left to right, each once.
func TestOrder(t *testing.T) {
	for _, x := range [][2]string{
		{"f(1)+f(2)*f(3)", "1.2.3."}, {"f(1) f(2) f(3)", "1.2.3."}, {"f(2)<f(1)", "2.1."}, {"f(1)-f(2)-f(3)", "1.2.3."}, {"f(1)~f(2)", "1.2."}, {"f(1)!~f(2)", "1.2."}, {"f(1)/f(2)%f(3)", "1.2.3."}, {"(f(1)==f(2))!=f(3)", "1.2.3."},
		{"m[f(1)]=f(2)", "1.2."}, {"$f(1)=f(2)", "1.2."}, {"m[f(1)]+=m[f(2)]", "1.2."}, {"m[m[f(1)]]=f(2)", "1.2."}, {"$f(3)-=f(4)", "3.4."}, {"$f(0)=f(4)", "0.4."}, {"m[f(3)]++", "3."}, {"--m[f(3)]", "3."}, {"$f(3)--", "3."}, {"++$f(3)", "3."}, {"m[f(1)]=m[f(2)]=f(3)", "1.2.3."},
		{"f(1)?f(2):f(3)", "1.2."}, {"f(0)?f(2):f(3)", "0.3."}, {"f(0)&&f(1)", "0."}, {"f(1)&&f(2)", "1.2."}, {"f(1)||f(2)", "1."}, {"f(0)||f(2)", "0.2."}, {"f(0)&&f(1)||f(2)", "0.2."}, {"f(1)||f(2)&&f(3)", "1."}, {"!f(0)&&-f(1)", "0.1."},
		{"f(1) in m", "1."}, {"f(f(1)+f(2))", "1.2.3."}, {"substr(f(1),f(2),f(3))", "1.2.3."}, {"index(f(1),f(2))", "1.2."}, {"match(f(1),f(2))", "1.2."}, {"split(f(1),m,f(2))", "1.2."}, {"sprintf(f(1),f(2),f(3))", "1.2.3."}, {"f(g(f(1),m,f(2)))", "1.2.8."},
		{"sub(f(1),f(2),m[f(3)])", "3.1.2."}, {"gsub(f(1),f(2),$f(3))", "3.1.2."}, {"sub(f(1),f(2))", "1.2."}, {"gsub(f(1),f(2),x)", "1.2."},
	} {
		try(t, []want{{say + "function g(a,b,c){b[1];return 8} BEGIN{" + x[0] + "}", nil, x[1], 0, api.OK}})
	}
	try(t, []want{
		{say + "BEGIN{print f(1),f(2) > f(3)}", nil, "1.2.3.", 0, api.OK},
		{say + "BEGIN{printf f(1),f(2) >> f(3)}", nil, "1.2.3.", 0, api.OK},
		{"BEGIN{i=5;print i++ + ++i,i;print i-- - --i,i;m[i++]=i;for(k in m)print k,m[k];m[i]=i++;for(k in m)print k,m[k]}", nil, "12 7\n2 5\n5 6\n5 6\n6 6\n", 0, api.OK},
		{"BEGIN{x=3;print x (x=4) x,x+(x=5)+x}", nil, "344 14\n", 0, api.OK},
	})
}

// P17.1: each way to lay something, in each place: what is laid, and what it is as a value.
func TestLaying(t *testing.T) {
	for _, place := range []string{"v", "m[\"k\"]", "m[v=v]", "$1", "$0", "$2", "$(1+1)", "NF", "NR", "FS", "m[m[1]]", "RSTART"} {
		s := strings.ReplaceAll("@=7;print (@=7),@;print (@+=2),@;print (@-=4),@;print (@*=5),@;print (@/=2),@;print (@%=5),@;print @++,@;print ++@,@;print @--,@;print --@,@;print (@=\"5x\")@,@+0;print (@+=\"1y\")@", "@", place)
		out := "7 7\n9 9\n5 5\n25 25\n12.5 12.5\n2.5 2.5\n2.5 3.5\n4.5 4.5\n4.5 3.5\n2.5 2.5\n5x5x 5\n66\n"
		if place == "NF" {
			out = "7 7\n9 9\n5 5\n25 25\n12.5 12\n2 2\n2 3\n4 4\n4 3\n2 2\n5x5 5\n66\n"
		}
		try(t, []want{{"{" + s + "}", []string{"a b c\n"}, out, 0, api.OK}})
	}
	try(t, []want{
		// The place may change while the value is evaluated: what was there is read behind it.
		{"BEGIN{x=1;x+=x=5;print x;x-=x++;print x;x=2;x*=++x;print x}", nil, "10\n1\n9\n", 0, api.OK},
		{"{$1+=$0=\"5 6\";print;$2=$2=9;print;$3+=NF=2;print}", []string{"1 2\n"}, "10 6\n10 9\n10 9 2\n", 0, api.OK},
		{"function f(){delete m;return 1} BEGIN{m[1]=5;m[2];m[1]+=f();for(k in m)print k,m[k];m[1]=f();for(k in m)print k,m[k]}", nil, "1 1\n1 1\n", 0, api.OK},
		{"function c(a,k,n){for(k in a)n++;return n+0} BEGIN{m[1]=c(m);print m[1];m[2]+=c(m);print m[2];m[3]=m[4]=c(m);print m[3],m[4];for(k in m)print k}", nil, "0\n1\n2 2\n1\n2\n4\n3\n", 0, api.OK},
		{"BEGIN{i=1;m[i]=i=2;print m[1],m[2],i;i=1;$i=i=3;print $1,$3}", nil, "2  2\n3 \n", 0, api.OK},
		{"BEGIN{i=1;m[i]+=i++;m[i]+=i++;for(k in m)print k,m[k]}", nil, "1 1\n2 2\n", 0, api.OK},
		{"BEGIN{NF+=NF=3;print NF;NF-=$2=1;print NF}", nil, "6\n5\n", 0, api.OK},
		{"BEGIN{OFS=\"-\";$3=OFS=\"+\";print;FS=\",\";$0=(FS=\":\") \"a:b,c\";print NF}", nil, "+++\n3\n", 0, api.OK},
		// What is laid by = is the value as it is; by the others it is a number.
		{"BEGIN{x=\"010\";y=x;print y,y==10;x+=0;print x,x==10;z=u;print z==0,z==\"\";u++;z=-w;print z==0,z==\"\",z}", nil, "010 0\n10 1\n1 1\n1 0 0\n", 0, api.OK},
		{"{x=$1;y=$2;$2=x;print x==y,x<\"1\",$1==$2,x==1;$1=\"01\";print $1==1}", []string{"1.0 01\n"}, "1 0 1 1\n0\n", 0, api.OK},
		{"BEGIN{x=\"3y\";print x++,x;y=\"z\";print ++y,y--,y;print z--,z}", nil, "3 4\n1 1 0\n0 -1\n", 0, api.OK},
	})
}

// P17.1: a key comes by being asked, and doesn't by in.
func TestKeysCome(t *testing.T) {
	try(t, []want{
		{"BEGIN{if(1 in m)print 1;if(m[2]==0&&m[2]==\"\")print 2;x=m[3];y=(4 in m);for(k in m)print k;print length(m[5]) (5 in m) (\"\" in m);m[\"\"];print \"\" in m}", nil, "2\n2\n3\n010\n1\n", 0, api.OK},
		{"BEGIN{m[1.50]=1;m[\"01\"]=2;m[1]=3;m[\"1.0\"]=4;m[01.0]=5;m[-0]=6;for(k in m)print k,m[k]}", nil, "1.5 1\n01 2\n1 5\n1.0 4\n0 6\n", 0, api.OK},
		{"{m[$1]++;m[$2+0]++} END{for(k in m)print k,m[k]}", []string{"01 1\n1 01\n"}, "01 1\n1 3\n", 0, api.OK},
		{"BEGIN{m[1]++;m[2]--;m[3]+=5;m[4]=m[6];sub(/a/,\"b\",m[7]);gsub(/$/,\"b\",m[8]);for(k in m)print k \":\" m[k]}", nil, "1:1\n2:-1\n3:5\n6:\n4:\n7:\n8:b\n", 0, api.OK},
		{"BEGIN{1?m[1]:m[2];0&&m[3];1||m[4];delete m[5];for(k in m)print k}", nil, "1\n", 0, api.OK},
	})
}

// P17.1: numbers, texts, values of neither and values from inputs, held against one another.
func TestCompared(t *testing.T) {
	try(t, []want{
		{"BEGIN{print 2<10,\"2\"<10,2<\"10\",\"2\"<\"10\",\"a\"<\"b\",\"b\"<=\"a\",1==1.0,\"1\"==1.0,\"1.0\"==1,\"\"<\"a\"}", nil, "1 0 0 0 1 0 1 1 0 1\n", 0, api.OK},
		{"BEGIN{print u==0,u==\"\",u==v,u<1,u<\"a\",(u>-1),u!=0,(u>=0),u<=\"\",(u>\"\")}", nil, "1 1 1 1 1 1 0 1 1 0\n", 0, api.OK},
		{"{print $1<$2,$1==$2,($1>\"9\"),$1<9,$1!=$2,($2>=$1),$3==0,$3==\"\"}", []string{"10 9\n1.0 1\n 010 x\n+1 01\n"}, "0 0 0 0 1 0 1 1\n0 1 0 1 0 1 1 1\n1 0 0 0 1 1 1 1\n0 1 0 1 0 1 1 1\n", 0, api.OK},
		{"$0<5", []string{"4\n 4 \n5\n4x\n10\n-1\n\n"}, "4\n 4 \n4x\n-1\n\n", 0, api.OK},
		{"BEGIN{split(\"10 9 x 10.0\",m);print m[1]<m[2],m[1]<m[3],m[1]==m[4],m[1]==\"10\",m[4]==\"10\"}", nil, "0 1 1 1 0\n", 0, api.OK},
		{"BEGIN{print (1<2)<2,(2>1)==1,1<2?3:4,!1<1}", nil, "1 1 3 1\n", 0, api.OK},
	})
}

// P17.1: what counts as true, and what and, or, not and cond are.
func TestTrue(t *testing.T) {
	try(t, []want{
		{"BEGIN{print !0,!1,!.1,!\"\",!\"0\",!\"a\",!u,!-1,!!5,!\"\"+1}", nil, "1 0 0 1 0 0 1 0 1 2\n", 0, api.OK},
		{"{print !$1,!$2,!$9,!$0}", []string{"0 0x\n1 .0\n 0 \n\n"}, "1 0 1 0\n0 1 1 0\n1 1 1 1\n1 1 1 1\n", 0, api.OK},
		{"BEGIN{print 5&&\"a\",5&&\"\",0||\"x\",0||u,\"0\"&&1,7||x++,0&&y++;print length(x y)}", nil, "1 0 1 0 1 1 0\n0\n", 0, api.OK},
		{"BEGIN{print 1?\"a\":\"b\",0?\"a\":\"b\",\"\"?1:u?2:3,(u?1:\"\")==0}", nil, "a b 3 0\n", 0, api.OK},
		{"BEGIN{if(\"0\")print 1;if(0)print 2;else print 3;if(u);else print 4;while(\"\")print 5;for(;u;)print 6}", nil, "1\n3\n4\n", 0, api.OK},
	})
}

// P17.1: numbers' signs, sums, products; texts that are numbers only in front.
func TestReckoning(t *testing.T) {
	try(t, []want{
		{"BEGIN{print 1+2,1-2,2*3,7/2,7%3,-7%3,7%-3,-7/2,1/3,.1+.2,1e}", nil, "3 -1 6 3.5 1 -1 1 -3.5 0.333333 0.3 1\n", 0, api.OK},
		{"BEGIN{print -\"3x\",+\"3x\",-u,+u,- -5,\"a\"+1,\" 12 \"*2,\"1.5.5\"+0,\".\"+0,-\"\"}", nil, "-3 3 0 0 5 1 24 1.5 0 0\n", 0, api.OK},
		{"BEGIN{print 4611686018427.387903+1,-4611686018427-5,99999999*99999999,-4611686018427.387903*2,1/.000001}", nil, "4611686018427.387903 -4611686018427.387903 4611686018427.387903 -4611686018427.387903 1000000\n", 0, api.OK},
		{"BEGIN{print 1 2,1 -2,1 \" \" -2,1.50 \"\",-.5 \"\",01.10 u}", nil, "12 -1 1-2 1.5 -0.5 1.1\n", 0, api.OK},
		{"{print $1+$2,$1 $2,$1*\"2\"}", []string{"1.50 02\n"}, "3.5 1.5002 3\n", 0, api.OK},
	})
}

// P17.1: a pattern is met in a text, or isn't; a re by itself asks the record.
func TestMatched(t *testing.T) {
	try(t, []want{
		{"BEGIN{print \"xaab\"~/a+b/,\"xb\"~/a+b/,\"xb\"!~/a+b/,\"ab\"~\"^a\",\"ba\"~\"^a\",\"\"~/^$/,\"a\"~\"\",12~1,12~/^2/,u~/./,u!~/./}", nil, "1 0 1 1 0 1 1 1 0 0 1\n", 0, api.OK},
		{"{print /b/,/b/+/c/,!/b/,$1~/b/,(/b/)~1,/a/?\"y\":\"n\";x=/c/;print x}", []string{"a b\nc\n"}, "1 1 0 0 1 y\n0\n0 1 1 0 0 n\n1\n", 0, api.OK},
		{"BEGIN{p=\"[0-9]+\";print \"a1\"~p,\"a\"~p;p=\"\\\\.\";print \"a.b\"~p,\"ab\"~p,\"a|b\"~\"a|b\",\"b\"~\"a|b\",\"a/b\"~/a\\/b/,\"a\\nb\"~/a.b/}", nil, "1 0\n1 0 1 1 1 1\n", 0, api.OK},
		{"function g(p){return p} {print g(/a/),$1~g(\"a\"),$0~$2}", []string{"a b\nb b\nb [ab]\n"}, "1 1 1\n0 0 1\n1 0 1\n", 0, api.OK},
	})
}
