package vm_test

import (
	"testing"

	"scribe/api"
)

// P17.1: a loop goes through the keys that there are when it begins, in the order in which they came.
func TestKeys(t *testing.T) {
	try(t, []want{
		{"BEGIN{m[3];m[1];m[2];for(k in m)print k;delete m[3];m[3];for(k in m)print k}", nil, "3\n1\n2\n1\n2\n3\n", 0, api.OK},
		{"BEGIN{m[1];m[2];m[3];for(k in m){delete m[k+1];m[k \"x\"];print k};for(k in m)print k}", nil, "1\n2\n3\n1\n1x\n2x\n3x\n", 0, api.OK},
		{"BEGIN{m[1];m[2];for(k in m){delete m;print k};for(k in m)print 5;for(k in n)print 6;print k}", nil, "1\n2\n2\n", 0, api.OK},
		{"BEGIN{m[1];m[2];for(k in m){k=k \"z\";print k};print k;for(m2 in m);print m2}", nil, "1z\n2z\n2z\n2\n", 0, api.OK},
		{"BEGIN{m[10];m[9];for(k in m)print k<9,k<\"9\",k==10,k+1}", nil, "1 1 1 11\n0 0 0 10\n", 0, api.OK},
		{"{m[$1]=m[$1] $2} END{for(k in m)print k,m[k];for(NR in m)print NR}", []string{"b 1\na 2\nb 3\n"}, "b 13\na 2\nb\na\n", 0, api.OK},
		{"BEGIN{m[\"\"];m[\" \"];m[\"\\n\"];for(k in m)printf \"(%s)\",k}", nil, "()( )(\n)", 0, api.OK},
		{"BEGIN{m[1];m[2];for(k in m)for(k in m)print k}", nil, "1\n2\n1\n2\n", 0, api.OK},
		{"function f(a,k){for(k in a)print k;k=7} BEGIN{k=5;m[1];f(m);print k}", nil, "1\n5\n", 0, api.OK},
		{"BEGIN{m[1];m[\"x\"];for(FS in m);$0=\"axb\";print $2;for(OFS in m)print 1,2;for(ORS in m)print 3;ORS=\"|\";for(RSTART in m)print RSTART}", nil, "b\n112\n1x2\n313x1|x|", 0, api.OK},
	})
}

// P17.1: delete takes a key out, or all.
func TestDelete(t *testing.T) {
	try(t, []want{
		{"BEGIN{m[1];m[2];delete m[1];delete m[3];delete m[1];print (1 in m)(2 in m)(3 in m);delete m[\"2\"];print 2 in m;m[5];m[6];delete m;for(k in m)print k;m[7];for(k in m)print k;delete m;delete m;delete m[7]}", nil, "010\n0\n7\n", 0, api.OK},
		{"function f(a){delete a[1];return 1 in a} BEGIN{m[1];m[1.0];m[\"1.0\"];print f(m);for(k in m)print k}", nil, "0\n1.0\n", 0, api.OK},
		{"BEGIN{m[1]=5;delete m[1];print m[1]==0,m[1]==\"\",length(m[1])}", nil, "1 1 0\n", 0, api.OK},
	})
}

// P17.1: loops and choices.
func TestLoops(t *testing.T) {
	try(t, []want{
		{"BEGIN{while(i<3)print i++;for(i=5;i<7;i++)print i;for(;;)if(i-->4)continue;else break;print i;while(1){if(++j>3)break;if(j==2)continue;print j}}", nil, "0\n1\n2\n5\n6\n3\n1\n3\n", 0, api.OK},
		{"BEGIN{for(i=0;i<3;i++)for(j=0;j<3;j++){if(j==1)continue;if(i==1)break;print i j}}", nil, "00\n02\n20\n22\n", 0, api.OK},
		{"BEGIN{if(1)if(0)print 1;else print 2;if(0){print 3}else if(1)print 4;else print 5;{;};{print 6}}", nil, "2\n4\n6\n", 0, api.OK},
		{"BEGIN{for(print 1;i<2;print i)i++;for(i++;0;);print i;for(;i<5;)i++;print i}", nil, "1\n1\n2\n3\n5\n", 0, api.OK},
		{"BEGIN{while(0)print 1;for(;0;)print 2;for(i=1;0;i=2);print i}", nil, "1\n", 0, api.OK},
	})
}

// P17.1: what is printed, and what stands between and behind.
func TestPrint(t *testing.T) {
	try(t, []want{
		{"{print;print $0;print($0);print \"\";print u;print 1,2,3;print(1,2);print(1)(2);print 1.50,\"1.50\",$2}", []string{"a  1.50\n"}, "a  1.50\na  1.50\na  1.50\n\n\n1 2 3\n1 2\n12\n1.5 1.50 1.50\n", 0, api.OK},
		{"BEGIN{OFS=\"-\";ORS=\"!\\n\";print 1,2;OFS=\"\";ORS=\"\";print 3,4;OFS=5;ORS=6;print 7,8,9;OFS=u;print 1,u,2} {print}", []string{"a\nb"}, "1-2!\n34758596126a6b6", 0, api.OK},
		{"{print $1,$2;OFS=\":\";print;print $1,$2;ORS=\"|\";print $0,$3}", []string{"a b\nc d"}, "a b\na b\na:b\na b:|c:d|c d|c:d|c d:|", 0, api.OK},
		{"function f(){OFS=\"+\";ORS=\"=\";return 1} BEGIN{print f(),2;print 3}", nil, "1+2=3=", 0, api.OK},
		{"BEGIN{OFS=\"-\";ORS=\"!\";printf \"a\";printf(\"%s,%d\\n\",\"b\",3.9);printf \"%s\";printf u;printf 1.50;printf \"%%|%5s|\\n\",\"x\",\"left\"}", nil, "ab,3\n1.5%|    x|\n", 0, api.OK},
		{"{printf $0;printf(\"%s-\",$2)}", []string{"a%% b\nc d"}, "a% bb-c dd-", 0, api.OK},
		{"1", []string{"a\n\nb"}, "a\n\nb\n", 0, api.OK},
		{"BEGIN{ORS=\"\";print \"a\\nb\";print}", nil, "a\nb", 0, api.OK},
	})
}

// P17.1: where it goes to, and which files are emptied when.
func TestTargets(t *testing.T) {
	for _, x := range []struct {
		source string
		had    sheets
		want   sheets
	}{
		{`BEGIN{print 1 > "a";print 2 > "a";print 3 >> "a";print 4 > "b"}`, sheets{"a": "old", "b": "old", "c": "old"}, sheets{"a": "1\n2\n3\n", "b": "4\n", "c": "old"}},
		{`BEGIN{print 1 >> "a";print 2 > "a";print 3 >> "a"}`, sheets{"a": "old\n"}, sheets{"a": "old\n1\n2\n3\n"}},
		{`BEGIN{print 1 >> "a";print 2 >> "b"}`, sheets{"a": "old\n"}, sheets{"a": "old\n1\n", "b": "2\n"}},
		{`BEGIN{print 1;print 2 > "stdout";print 3 >> "stdout"}`, sheets{"stdout": "old\n"}, sheets{"stdout": "1\n2\n3\n"}},
		{`BEGIN{print 1 > "stdout";print 2}`, sheets{"stdout": "old\n"}, sheets{"stdout": "1\n2\n"}},
		{`BEGIN{print 1 >> "stdout";print 2;print 3 > "stdout"}`, sheets{"stdout": "old\n"}, sheets{"stdout": "old\n1\n2\n3\n"}},
		{`{print > $1;printf "%s|",$2 >> $1;printf $2 > $2 "x"} END{print NR > "a"}`, sheets{"a": "old", "2x": "old"}, sheets{"a": "a 1\n1|a 3\n3|3\n", "b": "b 2\n2|", "1x": "1", "2x": "2", "3x": "3"}},
		{`BEGIN{printf "" > "a";printf "" >> "b";printf "" > "c"}`, sheets{"a": "old", "b": "old"}, sheets{"a": "", "b": "old", "c": ""}},
		{`BEGIN{print 1 > 2;print 3 > 2.50;print 4 > "A b/c";print 5 > 1 + 1;print 6 >> "x" "y"}`, sheets{}, sheets{"2": "1\n5\n", "2.5": "3\n", "A b/c": "4\n", "xy": "6\n"}},
		{`function f(n){print n > "o";if(n>0)f(n-1);print n >> "o"} BEGIN{f(2)}`, sheets{"o": "old"}, sheets{"o": "2\n1\n0\n0\n1\n2\n"}},
		{`BEGIN{for(i=0;i<4;i++){print i > ("f" i%2);print i > "a"}}`, sheets{"f0": "old", "f2": "old"}, sheets{"f0": "0\n2\n", "f1": "1\n3\n", "f2": "old", "a": "0\n1\n2\n3\n"}},
		{`BEGIN{print 1 > "a";print 2 > "#";print 3 > "a"}`, sheets{"a": "old"}, sheets{"a": "1\n"}},
		{`BEGIN{x=1}`, sheets{"stdout": "old", "a": "old"}, sheets{"stdout": "old", "a": "old"}},
	} {
		for _, size := range []int{1, 3, enough} {
			out := sheets{}
			for name, s := range x.had {
				out[name] = s
			}
			m := machineOf(t, x.source, files("a 1\nb 2\na 3\n"), out)
			for !m.Over() {
				m.Run(size)
			}
			if !alike(told{files: out}, told{files: x.want}) {
				t.Errorf("%q in pieces of %d: %q, want %q", x.source, size, out, x.want)
			}
		}
	}
}
