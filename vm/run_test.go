package vm_test

import (
	"testing"

	"scribe/api"
	"scribe/vm"
)

// P17.1: the chapter's examples, and those of the whole.
func TestExamples(t *testing.T) {
	try(t, []want{
		{"{n+=$2} END{print n/NR}", []string{"a 1\nb 2\n"}, "1.5\n", 0, api.OK},
		{`BEGIN{x[2];x[1];for(k in x)printf "%s ",k}`, nil, "2 1 ", 0, api.OK},
		{`{print > "#in"}`, []string{"a\n"}, "", 0, api.ErrRun},
	})
}

// P17.1: which blocks are done when, over which records.
func TestRuns(t *testing.T) {
	try(t, []want{
		{"", nil, "", 0, api.OK}, {"", []string{"a\nb\n"}, "", 0, api.OK}, {"BEGIN{}END{}{}", []string{"a"}, "", 0, api.OK},
		{"BEGIN{print 1}", nil, "1\n", 0, api.OK}, {"BEGIN{print 1}", []string{"a\nb\n"}, "1\n", 0, api.OK}, {"END{print 1}", []string{"a\nb\n"}, "1\n", 0, api.OK}, {"END{print 1}", nil, "1\n", 0, api.OK}, {"{print 1}", nil, "", 0, api.OK},
		{"END{print 5} {print 3} BEGIN{print 1} {print 4} END{print 6} BEGIN{print 2}", []string{"x\ny"}, "1\n2\n3\n4\n3\n4\n5\n6\n", 0, api.OK},
		// Inputs that are empty, and with and without a last byte 10.
		{"{print FILENAME,NR,$0}", []string{"", "a", "", "b\n", "c\nd", "\n", "\n\ne\n\n"}, "in1 1 a\nin3 2 b\nin4 3 c\nin4 4 d\nin5 5 \nin6 6 \nin6 7 \nin6 8 e\nin6 9 \n", 0, api.OK},
		{"{n++} END{print n,NR}", []string{"", "", ""}, " 0\n", 0, api.OK},
		// FILENAME, NR, NF and the record at each place.
		{"BEGIN{print FILENAME,NR,NF,$0,$1,$NF \"|\"} {print FILENAME,NR,NF,$1} END{print FILENAME,NR,NF,$0,$1}", []string{"a b\n", "", "c d e\n"}, " 0 0   |\nin0 1 2 a\nin2 2 3 c\nin2 2 3 c d e c\n", 0, api.OK},
		{"BEGIN{print length(FILENAME),FILENAME==0,FILENAME==\"\",length(NR),NR==0,NF==0,length(NF),RSTART==0,RSTART==\"\",length(RLENGTH)}", nil, "0 1 1 1 1 1 1 1 1 0\n", 0, api.OK},
		{"BEGIN{printf \"%s\",FS OFS ORS}", nil, "  \n", 0, api.OK},
		{"BEGIN{NR=10} {print NR} NR==12{NR=\"x\"} END{print NR}", []string{"a\nb\nc\nd\n"}, "11\n12\n1\n2\n2\n", 0, api.OK},
		{"{FILENAME=FILENAME \"!\";print FILENAME}", []string{"a\nb\n", "c"}, "in0!\nin0!\nin1!\n", 0, api.OK},
		// A name of an input is a text, also if it looks like a number.
		{"$0", []string{"0\n00\n \nx\n1\n+0.0\n"}, " \nx\n1\n", 0, api.OK},
		{"$1", []string{"0 a\nx 0\n\n-0 y\n0x\n"}, "x 0\n0x\n", 0, api.OK},
		{"/a/;!/a/;$2>1", []string{"a\nb 2\nca 10\n"}, "a\nb 2\nb 2\nca 10\nca 10\n", 0, api.OK},
		{"$0 \"\"", []string{"0\n\nx\n"}, "0\nx\n", 0, api.OK},
		{"x=$2", []string{"a 0\nb 1\nc\n"}, "b 1\n", 0, api.OK},
		// next leaves the rules for this record alone.
		{"{print 1} $1==\"b\"{print 2;next;print 3} {print 4;next} {print 5}", []string{"a\nb\nc\n"}, "1\n4\n1\n2\n1\n4\n", 0, api.OK},
		{"function f(a,k){a[1];a[2];for(k in a)return k} {for(k in m)for(j in m){if(f()==1&&j==2)next;print k,j}} BEGIN{m[1];m[2]} END{print NR}", []string{"a\nb\n"}, "1 1\n1 1\n2\n", 0, api.OK},
		{"{x=x 1;if(NR%2)next;print x}", []string{"a\nb\nc\nd\n"}, "11\n1111\n", 0, api.OK},
	})
}

// P17.1: an input's name is a text, whatever it looks like.
func TestNameIsText(t *testing.T) {
	got, _ := played(t, "{print FILENAME<9,FILENAME==10,FILENAME+1}", []vm.File{{Name: "10", Text: "a"}, {Name: "", Text: "a"}, {Name: "10.0", Text: "a"}})
	if got.files["stdout"] != "1 1 11\n1 0 1\n1 0 11\n" {
		t.Errorf("%q", got.files)
	}
}

// P17.1: exit ends all at once, with a status from 0 to 255.
func TestExit(t *testing.T) {
	in := []string{"a\nb\nc\n"}
	try(t, []want{
		{"BEGIN{print 1;exit;print 2} {print 3} END{print 4}", in, "1\n", 0, api.OK},
		{"BEGIN{exit 3} END{print 4}", in, "", 3, api.OK},
		{"NR==2{exit 4} {print} END{print 4}", in, "a\n", 4, api.OK},
		{"END{print 1;exit 5;print 2} END{print 3}", in, "1\n", 5, api.OK},
		{"function f(n){if(n==0)exit 6;f(n-1);print n} {print f(3)}", in, "", 6, api.OK},
		{"function f(a,k){for(k in a)exit k} BEGIN{m[7];m[8];for(k in m)x=1+f(m)}", in, "", 7, api.OK},
		{"BEGIN{exit -1}", nil, "", 255, api.OK}, {"BEGIN{exit -257}", nil, "", 255, api.OK}, {"BEGIN{exit -256}", nil, "", 0, api.OK}, {"BEGIN{exit 256}", nil, "", 0, api.OK}, {"BEGIN{exit 300}", nil, "", 44, api.OK}, {"BEGIN{exit 2.9}", nil, "", 2, api.OK}, {"BEGIN{exit -2.9}", nil, "", 254, api.OK}, {"BEGIN{exit -.9}", nil, "", 0, api.OK}, {"BEGIN{exit 255.999}", nil, "", 255, api.OK},
		{"BEGIN{exit \"12x\"}", nil, "", 12, api.OK}, {"BEGIN{exit x}", nil, "", 0, api.OK}, {"BEGIN{exit 99999999999999999999}", nil, "", 123, api.OK}, {"BEGIN{exit -99999999999999999999}", nil, "", 133, api.OK}, {"{exit $1}", []string{"-3\n"}, "", 253, api.OK},
		{"BEGIN{exit 1/0}", nil, "", 0, api.ErrRun}, {"BEGIN{exit (print_me=7)} END{print print_me}", nil, "", 7, api.OK},
	})
}

// P17.1: how FS parts the records behind it, and what NF does when it is laid in.
func TestRecords(t *testing.T) {
	try(t, []want{
		{"{print $2;FS=\",\"}", []string{"a,b c\nd,e f\ng,h\n"}, "c\ne f\nh\n", 0, api.OK},
		{"BEGIN{FS=\",\"} {print NF,$1}", []string{"a,,b\n\n,\n"}, "3 a\n0 \n2 \n", 0, api.OK},
		{"BEGIN{FS=\"[0-9]+\"} {print NF,$2;FS=5}", []string{"a12b3c\nx5y55z\n"}, "3 b\n4 y\n", 0, api.OK},
		{"BEGIN{FS=\"\"} {print NF,$1;FS=x}", []string{"a b\nc d\n"}, "1 a b\n1 c d\n", 0, api.OK},
		{"{FS=\":\";$0=$0;print $1;FS=\" \"}", []string{"a:b c\n"}, "a\n", 0, api.OK},
		{"{NF=2;print;print NF}", []string{"a b c\nd\n"}, "a b\n2\nd \n2\n", 0, api.OK},
		{"{$5=\"x\";print;print NF;print $4 \"|\" $5}", []string{"a  b\n"}, "a b   x\n5\n|x\n", 0, api.OK},
		{"{OFS=\"-\";NF=NF;print;NF=5;print;NF=1;print;NF=0;print;print NF}", []string{"a b c\n"}, "a-b-c\na-b-c--\na\n\n0\n", 0, api.OK},
		{"{print NF=2.9,NF,$0;print NF++,NF;print ++NF,NF;print NF--,NF;print --NF,NF;print NF+=3,NF;print NF-=1,NF;print NF*=2,NF;print NF/=4,NF;print NF%=2,NF}", []string{"a b c\n"}, "2.9 2 a b\n2 3\n4 4\n4 3\n2 2\n5 5\n4 4\n8 8\n2 2\n0 0\n", 0, api.OK},
		{"{NF=\"2x\";print;print NF}", []string{"a b c\n"}, "a b\n2\n", 0, api.OK},
		{"{x=$7;print NF,length($7);$7=$7;print NF}", []string{"a b\n"}, "2 0\n7\n", 0, api.OK},
		{"BEGIN{NF=2;OFS=\"+\";$1=1;print;print NF;$0=\"p q r\";print $2,NF}", nil, "1+\n2\nq+3\n", 0, api.OK},
		{"{$0=\"x y z\";print $2,NF;$2=\"\";print;print NF;$0=\"\";print NF}", []string{"a\n"}, "y 3\nx  z\n3\n0\n", 0, api.OK},
		{"{$(NF+2)=NF;print;$NF=\"\";print;print NF}", []string{"a b\n"}, "a b  2\na b  \n4\n", 0, api.OK},
		{"{$3=$1+$2;print;print $3*2}", []string{"1 2 9\n 4   5\n"}, "1 2 3\n6\n4 5 9\n18\n", 0, api.OK},
		{"{$1=\"10\";print ($1<9),($2<9);$0=$0;print ($1<9),($2<9)}", []string{"1 10\n"}, "1 0\n0 0\n", 0, api.OK},
		{"END{print $0,NF;$2=\"z\";print;NF=1;print}", []string{"a b\nc d e\n"}, "c d e 3\nc z e\nc\n", 0, api.OK},
		{"BEGIN{for(NF in m)print NF,$0 \"|\";m[2];m[1.7];m[\"x\"];OFS=\"-\";for(NF in m)print NF,$0 \"|\"}", nil, "2--|\n1-|\n0-|\n", 0, api.OK},
		{"{print $NF,$(NF-1);NF=1;print $NF,$(1.9),$\"1x\"}", []string{"a b c\n"}, "c b\na a a\n", 0, api.OK},
	})
}
