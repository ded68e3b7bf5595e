package vm_test

import (
	"testing"

	"scribe/api"
)

// P17.1: functions, what they are handed, and what they give back.
func TestCalls(t *testing.T) {
	try(t, []want{
		{"function f(n){return n<2?1:n*f(n-1)} BEGIN{print f(6),f(0),f(12)}", nil, "720 1 479001600\n", 0, api.OK},
		{"function a(m,n){return m==0?n+1:n==0?a(m-1,1):a(m-1,a(m,n-1))} BEGIN{print a(2,3)}", nil, "9\n", 0, api.OK},
		{"function even(n){return n==0?1:odd(n-1)} function odd(n){return n==0?0:even(n-1)} BEGIN{print even(40),odd(40)}", nil, "1 0\n", 0, api.OK},
		// Values are the function's own, arrays are those that are handed in.
		{"function f(x,a){x=x 1;a[x]=x;g=x;return x} BEGIN{x=5;print f(x,m),x,g;for(k in m)print k,m[k]}", nil, "51 5 51\n51 51\n", 0, api.OK},
		{"function f(a,b){a[1]=1;b[2]=2;delete a[3];return a[2]} BEGIN{m[3];print f(m,m);for(k in m)print k,m[k]}", nil, "2\n1 1\n2 2\n", 0, api.OK},
		{"function f(a,n){if(n){a[n]=n;f(a,n-1);delete a[n+1]}} BEGIN{f(m,4);for(k in m)print k}", nil, "1\n", 0, api.OK},
		{"function f(a,x){x=a[1];a[1]=x+1;return x} BEGIN{m[1]=5;print f(m) f(m) f(m)}", nil, "567\n", 0, api.OK},
		{"function f(a){delete a} function g(b){f(b)} BEGIN{m[1];g(m);print 1 in m;m[2];f(m);for(k in m)print k}", nil, "0\n", 0, api.OK},
		{"function f(a,b,n){if(n==0)return split(\"x y\",b);return f(b,a,n-1)} BEGIN{print f(m,l,3);print m[1] l[2],m[2]}", nil, "2\nx y\n", 0, api.OK},
		// Missing arguments of both kinds; an array of its own is empty each time, and goes with the call.
		{"function f(x,a,y){print x==0,x==\"\",length(a[1]),y \"|\";a[1]=7;y=3;return a[1] y} BEGIN{print f(),f(\"p\"),f(1)}", nil, "1 1 0 |\n0 0 0 |\n0 0 0 |\n73 73 73\n", 0, api.OK},
		{"function f(n,a,k,s){a[n];if(n>0)s=f(n-1);a[n \"x\"];for(k in a)s=s k \" \";return s} BEGIN{print f(2)}", nil, "0 0x 1 1x 2 2x \n", 0, api.OK},
		{"function f(n,a){if(n==0){a[1]=5;return g(a,3)};return f(n-1,a)} function g(a,n){a[n]=a[1]+n;return n>1?g(a,n-1)+a[n]:a[n]} BEGIN{print f(3),f(0,m),m[3],m[1],u in m}", nil, "21 21 8 6 0\n", 0, api.OK},
		// The value of one that says nothing is an empty text.
		{"function f(){} function g(){return} function h(n){if(n)return 5} BEGIN{print length(f()),f()==0,f()==\"\",g()==0,g()==\"\",h(1),h(0)==\"\",h(0)==0,f() f()}", nil, "0 0 1 0 1 5 1 0 \n", 0, api.OK},
		{"function f(x){return x} {print f($1)==1,f($1)<\"2\",f(u)==0,f(u)==\"\",f(\"1.0\")==1}", []string{"1.0\n"}, "1 1 1 1 0\n", 0, api.OK},
		{"function f(){$0=\"x y\";NF=3;return $2} {print f() $1,NF}", []string{"a b\n"}, "yx 3\n", 0, api.OK},
		{"function f(x,x2,y){x=NR;y=NF;return x y} {print f(9)}", []string{"a b\nc\n"}, "12\n21\n", 0, api.OK},
		{"function f(x){x++;return x} BEGIN{print f(f(f(f(1))))}", nil, "5\n", 0, api.OK},
	})
}

// P17.1: a loop over keys that is left by return, by break, by exit and by next, and what is begun around it.
func TestLeavingKeys(t *testing.T) {
	try(t, []want{
		{"function f(a,k){for(k in a)if(k>1)return k;return \"none\"} BEGIN{m[1];m[2];m[3];for(i in m)print i,f(m);delete m[2];delete m[3];print f(m)}", nil, "1 2\n2 2\n3 2\nnone\n", 0, api.OK},
		{"function f(a,k,j){for(k in a)for(j in a)if(k j>\"21\")return k j} BEGIN{m[1];m[2];for(i in m)for(j in m)print f(m) i j}", nil, "2211\n2212\n2221\n2222\n", 0, api.OK},
		{"BEGIN{m[1];m[2];m[3];for(i in m){for(j in m){if(j==2)break;if(j==i)continue;print i,j}if(i==2)break;print i}print \"end\" i j}", nil, "1\n2 1\nend22\n", 0, api.OK},
		{"{for(i in m)for(j in m){if(j==3)next;print i,j}m[NR]} END{for(i in m)print i}", []string{"a\nb\nc\nd\n"}, "1 1\n1 1\n1 2\n2 1\n2 2\n1 1\n1 2\n1\n2\n3\n", 0, api.OK},
		{"function f(a,k){for(k in a){if(k==2)exit k;print k}} BEGIN{m[1];m[2];for(i in m)f(m)}", nil, "1\n", 2, api.OK},
		{"function f(a,n,k){for(k in a){if(n>0)f(a,n-1);s=s k n \" \"}} BEGIN{m[\"a\"];m[\"b\"];f(m,2);print s}", nil, "a0 b0 a1 a0 b0 b1 a2 a0 b0 a1 a0 b0 b1 b2 \n", 0, api.OK},
		{"BEGIN{m[1];m[2];while(n++<2)for(k in m){if(k==2)continue;print n k};for(;;){for(k in m)break;if(n++>4)break};print n}", nil, "11\n21\n6\n", 0, api.OK},
	})
}
