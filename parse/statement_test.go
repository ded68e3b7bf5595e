package parse_test

import (
	"strings"
	"testing"
)

// P13.1: each simple statement, with what may end it and what may not.
func TestSimple(t *testing.T) {
	for _, x := range [][2]string{
		{"break", "break"}, {"continue", "continue"}, {"next", "next"}, {"exit", "exit"}, {"exit 1", "exit(num:1)"}, {"exit a=1", "exit(assign:=(var:a num:1))"}, {"return", "return"}, {"return(a)b", "return(cat(var:a var:b))"}, {"delete a", "delete(name:a)"}, {"delete a[1]", "delete(index:a(num:1))"}, {"delete a [\n1 \n]", "delete(index:a(num:1))"}, {"print", "print(none)"}, {"print a", "print(none var:a)"}, {"print(a)", "print(none var:a)"}, {"printf a", "printf(none var:a)"}, {"a", "expr(var:a)"}, {"-a", "expr(neg(var:a))"}, {"/x/", "expr(re:x)"}, {"(a)", "expr(var:a)"}, {"exit(a>b)", "exit(greater(var:a var:b))"}, {"return a>b", "return(greater(var:a var:b))"},
	} {
		checkBlocks(t, [][2]string{
			{x[0], x[1]}, {x[0] + ";", x[1]}, {x[0] + "\n", x[1]}, {"{" + x[0] + "}", "block(" + x[1] + ")"}, {x[0] + ";b", x[1] + " expr(var:b)"}, {x[0] + "\nb", x[1] + " expr(var:b)"}, {x[0] + "#b\n", x[1]},
			// As bodies; the ; or Newline behind is the statement's own.
			{"if(a)" + sunder(x[0]), "if(var:a " + x[1] + ")"}, {"if(a)\n\n" + x[0] + ";", "if(var:a " + x[1] + ")"}, {"while(a)" + sunder(x[0]) + "\nb", "while(var:a " + x[1] + ") expr(var:b)"}, {"for(;;)" + sunder(x[0]) + ";b", "for(none none none " + x[1] + ") expr(var:b)"}, {"for(k in m)" + sunder(x[0]), "forin:k(name:m " + x[1] + ")"}, {"if(a){}else " + x[0], "if(var:a block " + x[1] + ")"},
			// As parts of a for.
			{"for(" + x[0] + ";;);", "for(" + x[1] + " none none empty)"}, {"for(;;" + x[0] + ");", "for(none none " + x[1] + " empty)"}, {"for(\n" + x[0] + ";;\n" + x[0] + "\n);", "for(" + x[1] + " none " + x[1] + " empty)"},
		})
		syntax(t, "{"+x[0]+"@", "{"+x[0]+"@)}", "{"+x[0]+"@]}", "{"+x[0]+"@:b}", "{"+x[0]+" @else}", "{"+x[0]+" @{}}", "{"+x[0]+" @next}", "{"+x[0]+" @print}", "{for("+x[0]+"@);}", "{for("+x[0]+"@\n;;);}", "{for(;;"+x[0]+"@;);}", "{for(;;"+x[0]+"\n@;);}", "{for(;;"+x[0]+"@}")
		banned(t, "{"+x[0]+"@|b}", "{"+x[0]+" @fflush}", "{for("+x[0]+" @|)", "{for(;;"+x[0]+"\n@|)")
	}
	syntax(t, "{break @1}", "{continue @a}", "{next @(1)}", "{exit@,}", "{exit 1@,2}", "{exit@=1}", "{exit @next}", "{return@*1}", "{delete@}", "{delete @(a)}", "{delete @1}", "{delete @$1}", "{delete @a(1)}", "{delete a@+1}", "{delete a@=1}", "{delete a @b}", "{delete a@,b}", "{delete a[@]}", "{delete a[1@,2]}", "{delete a[1]@[2]}", "{delete a[1@}", "{delete a@++}", "{delete@\na}", "{delete @length}", "{delete @\"a\"}", "{print\n@,a}", "{delete a[1\n@;]}")
	banned(t, "{delete @close}", "{exit @close}", "{return @|}", "{delete a[@close]}", "{next @close}")
}

// sunder: a text that behind a ) is read as it is elsewhere. A slash behind a ) divides.
func sunder(s string) string {
	if strings.HasPrefix(s, "/") {
		return "\n" + s
	}
	return s
}

// P13.1: if and else, with each kind of body and what may stand ahead of else.
func TestIf(t *testing.T) {
	checkBlocks(t, [][2]string{
		{"if(a)b", "if(var:a expr(var:b))"}, {"if(a);", "if(var:a empty)"}, {"if(a){}", "if(var:a block)"}, {"if(a)\n\n\nb", "if(var:a expr(var:b))"}, {"if(a)\n;", "if(var:a empty)"}, {"if(a)\n{\n}\n", "if(var:a block)"}, {"if (a) b", "if(var:a expr(var:b))"}, {"if(\n\na\n\n)b", "if(var:a expr(var:b))"}, {"if((a))(b)", "if(var:a expr(var:b))"}, {"if(a>b)c>d", "if(greater(var:a var:b) expr(greater(var:c var:d)))"}, {"if(a)#;\nb", "if(var:a expr(var:b))"},
		// What stands behind one belongs to the block.
		{"if(a)b;c", "if(var:a expr(var:b)) expr(var:c)"}, {"if(a);c", "if(var:a empty) expr(var:c)"}, {"if(a);;c", "if(var:a empty) expr(var:c)"}, {"if(a){};c", "if(var:a block) expr(var:c)"}, {"if(a){}\n\n;\n;c", "if(var:a block) expr(var:c)"}, {"if(a)b\n\n;\n;;", "if(var:a expr(var:b))"},
		{"if(a)b;else c", "if(var:a expr(var:b) expr(var:c))"}, {"if(a)b\nelse c", "if(var:a expr(var:b) expr(var:c))"}, {"if(a)b;;else c", "if(var:a expr(var:b) expr(var:c))"}, {"if(a)b\n;else c", "if(var:a expr(var:b) expr(var:c))"}, {"if(a)b;\n\n;\n\nelse c", "if(var:a expr(var:b) expr(var:c))"}, {"if(a)b\n\n\n;else c", "if(var:a expr(var:b) expr(var:c))"}, {"if(a)b\n\nelse c", "if(var:a expr(var:b) expr(var:c))"}, {"if(a)b;\nelse c", "if(var:a expr(var:b) expr(var:c))"},
		{"if(a){}else c", "if(var:a block expr(var:c))"}, {"if(a){};else c", "if(var:a block expr(var:c))"}, {"if(a){}\nelse c", "if(var:a block expr(var:c))"}, {"if(a){}\n\n;\n\nelse c", "if(var:a block expr(var:c))"}, {"if(a);else c", "if(var:a empty expr(var:c))"}, {"if(a);;else c", "if(var:a empty expr(var:c))"}, {"if(a);\n;\nelse c", "if(var:a empty expr(var:c))"},
		{"if(a);else;", "if(var:a empty empty)"}, {"if(a){}else{}", "if(var:a block block)"}, {"if(a){}else\n\n{}", "if(var:a block block)"}, {"if(a){}else\n;", "if(var:a block empty)"}, {"if(a)b;else\nc;d", "if(var:a expr(var:b) expr(var:c)) expr(var:d)"}, {"if(a){}else{}b", "if(var:a block block) expr(var:b)"},
		// An else is the closest if's.
		{"if(a)if(b)c;else d", "if(var:a if(var:b expr(var:c) expr(var:d)))"}, {"if(a)if(b)c;else d;else e", "if(var:a if(var:b expr(var:c) expr(var:d)) expr(var:e))"}, {"if(a){if(b)c}else d", "if(var:a block(if(var:b expr(var:c))) expr(var:d))"}, {"if(a)b;else if(c)d;else e", "if(var:a expr(var:b) if(var:c expr(var:d) expr(var:e)))"}, {"if(a)while(b)if(c);else;else d", "if(var:a while(var:b if(var:c empty empty)) expr(var:d))"}, {"if(a)for(;;)b\n;else c", "if(var:a for(none none none expr(var:b)) expr(var:c))"}, {"while(a)if(b)c\nelse d", "while(var:a if(var:b expr(var:c) expr(var:d)))"}, {"if(a)if(b)c;else d;;\nelse e", "if(var:a if(var:b expr(var:c) expr(var:d)) expr(var:e))"}, {"if(a)if(b);else;;else;", "if(var:a if(var:b empty empty) empty)"},
	})
	syntax(t, "{if@}", "{if @a}", "{if@\n(a)b}", "{if(@)b}", "{if(a@}", "{if(a@,b)c}", "{if(a@;b)c}", "{if(a)@}", "{if(a)\n\n@}", "{if(a)@", "{if(a)@)}", "{if(a)@else b}", "{if(a)b @else c}", "{if(a)(b)@else c}", "{if(a)b;else@}", "{if(a)b;else\n@}", "{if(a)b;else@)}", "{if(a)b;else c;@else d}", "{if(a)b;else @else c}", "{if(a){}else{}@else{}}", "{if(a\n@b)c}", "{if(a)@BEGIN{}}",
		// Two ; behind one another, or a Newline and two.
		"{if(a)b;;;@else c}", "{if(a)b\n;;@else c}", "{if(a)b;\n;\n;@else c}", "{if(a){};;@else c}", "{if(a){}\n;\n;\n@else c}", "{if(a);;;@else c}", "{if(a)if(b)c\n;\n;@else d}", "{if(a)if(b)c;;;@else d}", "{if(a)if(b)c;else d;;;@else e}", "{if(a){if(b)c;}@)", "{if(a)b;c;@else d}", "{while(a)b;@else c}", "{for(;;)b;@else c}")
	banned(t, "{if(@getline)}", "{if(a @|b)}", "{if @close}", "{if(a)@close}", "{if(a)b;else @|}", "{if(a)\n@system}")
}

// P13.1: while and both kinds of for, with each of the three parts there and not there.
func TestLoops(t *testing.T) {
	checkBlocks(t, [][2]string{
		{"while(a)b", "while(var:a expr(var:b))"}, {"while(a);", "while(var:a empty)"}, {"while(a){}", "while(var:a block)"}, {"while(\na\n)\n\nb", "while(var:a expr(var:b))"}, {"while(a)\n;b", "while(var:a empty) expr(var:b)"}, {"while(a)while(b)c;d", "while(var:a while(var:b expr(var:c))) expr(var:d)"}, {"while(a=b){c;d}", "while(assign:=(var:a var:b) block(expr(var:c) expr(var:d)))"},
		{"for(a;b;c)d", "for(expr(var:a) var:b expr(var:c) expr(var:d))"}, {"for(;b;c)d", "for(none var:b expr(var:c) expr(var:d))"}, {"for(a;;c)d", "for(expr(var:a) none expr(var:c) expr(var:d))"}, {"for(a;b;)d", "for(expr(var:a) var:b none expr(var:d))"}, {"for(;;c)d", "for(none none expr(var:c) expr(var:d))"}, {"for(;b;)d", "for(none var:b none expr(var:d))"}, {"for(a;;)d", "for(expr(var:a) none none expr(var:d))"}, {"for(;;)d", "for(none none none expr(var:d))"}, {"for(;;){}", "for(none none none block)"}, {"for(;;);", "for(none none none empty)"}, {"for(;;)\n\n;", "for(none none none empty)"},
		{"for (\n\na;\n\nb;\n\nc\n\n)\n\nd", "for(expr(var:a) var:b expr(var:c) expr(var:d))"}, {"for(\n;\n;\n)d", "for(none none none expr(var:d))"}, {"for(i=0;i<9;i++)s=s i", "for(expr(assign:=(var:i num:0)) less(var:i num:9) expr(postinc(var:i)) expr(assign:=(var:s cat(var:s var:i))))"}, {"for(print a>b;a>b;print>>c);", "for(print(to(var:b) var:a) greater(var:a var:b) print(append(var:c)) empty)"}, {"for(print;;print);", "for(print(none) none print(none) empty)"}, {"for(exit;;return);", "for(exit none return empty)"}, {"for(print(a,b);;)c", "for(print(none var:a var:b) none none expr(var:c))"}, {"for(;;print(a));", "for(none none print(none var:a) empty)"}, {"for(;;print(a)>b);", "for(none none print(to(var:b) var:a) empty)"}, {"for(;;print(a,b)\n)c", "for(none none print(none var:a var:b) expr(var:c))"}, {"for(;;print a\n);", "for(none none print(none var:a) empty)"},
		{"for(k in m)d", "forin:k(name:m expr(var:d))"}, {"for(\n\nk in m\n\n)\n\nd", "forin:k(name:m expr(var:d))"}, {"for (k in m) {}", "forin:k(name:m block)"}, {"for(k in m);", "forin:k(name:m empty)"}, {"for(k\\\nin m)for(l in k);", "forin:k(name:m forin:l(name:k empty))"}, {"for(k in k)k", "forin:k(name:k expr(var:k))"},
		// What begins like the one and is the other.
		{"for(k in m;;);", "for(expr(in:m(var:k)) none none empty)"}, {"for(k in m;k in m;k in m);", "for(expr(in:m(var:k)) in:m(var:k) expr(in:m(var:k)) empty)"}, {"for(k in m in n;;);", "for(expr(in:n(in:m(var:k))) none none empty)"}, {"for(k in m&&a;;);", "for(expr(and(in:m(var:k) var:a)) none none empty)"}, {"for((k)in m;;);", "for(expr(in:m(var:k)) none none empty)"}, {"for((k in m);;);", "for(expr(in:m(var:k)) none none empty)"}, {"for(k;;);", "for(expr(var:k) none none empty)"},
	})
	syntax(t, "{while@}", "{while @a}", "{while(@)b}", "{while(a@", "{while(a)@", "{while(a)@}", "{while(a)\n@}", "{while(a@;)b}", "{while(a)@)}", "{while@\n(a);}",
		"{for@}", "{for @a}", "{for@{}}", "{for@\n(;;);}", "{for(@", "{for(@)}", "{for(@,)}", "{for(a@)}", "{for(a@,b;;)}", "{for(a@\n;;)}", "{for(a;b@\n;)}", "{for(a;b@)}", "{for(a;b@,c;)}", "{for(a;b;c@;)}", "{for(a;b;c\n@;)}", "{for(a;b;c@,d)}", "{for(;@)}", "{for(;\n@)}", "{for(;;@", "{for(;;@;)}", "{for(;;@{})}", "{for(@{};;)}", "{for(@if(a)b;;)}", "{for(;@next;)}", "{for(;@print;)}", "{for(;a=@;)}", "{for(;;)@}", "{for(;;)\n@}", "{for(;;)@", "{for(;;@while(a);)}", "{for(\n@)}", "{for(a@}", "{for(;;@}", "{for(exit@);}", "{for(print@)}",
		"{for(k k in m@);}", "{for(k in@)}", "{for(k in @1)}", "{for(k in @m(1))}", "{for(k in @(m))}", "{for(k in m@", "{for(k in m@[1])}", "{for(k in m\n@;;)}", "{for(k in m\n@in n;;)}", "{for(k in m@,n)}", "{for(k@\nin m)}", "{for(k in@\nm)}", "{for(@in m)}", "{for(k in m)@}", "{for(k in m)@", "{for(k in m in n@)}", "{for(k in m&&a@)}", "{for((k)in m@)}", "{for((k in m)@)}", "{for(1 in m@)}", "{for(k[1]in m@)}", "{for($k in m@)}", "{for(a k in m@)}", "{for(k in m @n)}", "{for(;;print(a@,b))c}")
	banned(t, "{for(@close)}", "{for(a;@close)}", "{for(a;b;@close)}", "{for(k in @close)}", "{for(k in m@|)}", "{for @|}", "{for(;;)@|}", "{while(@|)}", "{while(a)@getline}", "{for(k in m\n@|)}")
}

// P13.1: print and printf, with ( ) and without, with > and >>.
func TestPrint(t *testing.T) {
	for _, op := range []string{"print", "printf"} {
		for _, x := range [][2]string{
			{" a", "none var:a"}, {" a,b", "none var:a var:b"}, {" a,\n\nb,\nc", "none var:a var:b var:c"}, {"(a)", "none var:a"}, {"(a,b)", "none var:a var:b"}, {"(\n\na\n\n)", "none var:a"}, {"(\na,\n\nb\n)", "none var:a var:b"}, {"((a),(b))", "none var:a var:b"}, {"((a))", "none var:a"}, {" a b", "none cat(var:a var:b)"}, {"$1,$2", "none field(num:1) field(num:2)"}, {" -a,!b", "none neg(var:a) not(var:b)"}, {"/x/", "none re:x"}, {" a=b", "none assign:=(var:a var:b)"}, {" a?b:c", "none cond(var:a var:b var:c)"},
			{" a>b", "to(var:b) var:a"}, {" a>>b", "append(var:b) var:a"}, {" a,b>c", "to(var:c) var:a var:b"}, {"(a,b)>c", "to(var:c) var:a var:b"}, {"(a)>b", "to(var:b) var:a"}, {"(a)>>b", "append(var:b) var:a"}, {"(a,b)>>c", "append(var:c) var:a var:b"}, {" a>b c", "to(cat(var:b var:c)) var:a"}, {" a>b+1 \"c\"", "to(cat(add(var:b num:1) str:c)) var:a"}, {" a>-b", "to(neg(var:b)) var:a"}, {" a>(b>c)", "to(greater(var:b var:c)) var:a"}, {" a>(b)(c)", "to(cat(var:b var:c)) var:a"}, {" a>b[c>d]", "to(index:b(greater(var:c var:d))) var:a"}, {" a>>$1", "append(field(num:1)) var:a"}, {" a>b++", "to(postinc(var:b)) var:a"}, {" a> /x/", "to(re:x) var:a"}, {" a>(b)", "to(var:b) var:a"},
			// Brackets that hold not all that is printed.
			{"(a)(b)", "none cat(var:a var:b)"}, {"(a),(b)", "none var:a var:b"}, {"(a)b", "none cat(var:a var:b)"}, {"(a)+b", "none add(var:a var:b)"}, {"(a)(b)>c", "to(var:c) cat(var:a var:b)"}, {"(a),b>c", "to(var:c) var:a var:b"}, {"(a)++", "none postinc(var:a)"}, {"(a)=b", "none assign:=(var:a var:b)"}, {"(a)in b", "none in:b(var:a)"}, {"(a)?b:c", "none cond(var:a var:b var:c)"}, {"(a)<b", "none less(var:a var:b)"}, {"(a)>=b", "none greatereq(var:a var:b)"}, {"(a)==b>c", "to(var:c) equal(var:a var:b)"},
			// A > compares in brackets alone, but in brackets that hold all of it.
			{"(a>b)", "none greater(var:a var:b)"}, {"(a,b>c)", "none var:a greater(var:b var:c)"}, {"(a>b,c>d)>e", "to(var:e) greater(var:a var:b) greater(var:c var:d)"}, {"(a>b)c", "none cat(greater(var:a var:b) var:c)"}, {"(a>b)c>d", "to(var:d) cat(greater(var:a var:b) var:c)"}, {"(a>b),c>d", "to(var:d) greater(var:a var:b) var:c"}, {" a(b>c)", "none call:a(greater(var:b var:c))"}, {" a(b>c)>d", "to(var:d) call:a(greater(var:b var:c))"}, {" a[b>c]>d", "to(var:d) index:a(greater(var:b var:c))"}, {" length(a>b)>c", "to(var:c) builtin:length(greater(var:a var:b))"}, {" a[(b>c)>d]", "none index:a(greater(greater(var:b var:c) var:d))"}, {" -(a>b)>c", "to(var:c) neg(greater(var:a var:b))"}, {" $(a>b)>c", "to(var:c) field(greater(var:a var:b))"}, {" a?b:c>d", "to(var:d) cond(var:a var:b var:c)"}, {" a=b>c", "to(var:c) assign:=(var:a var:b)"}, {" a=(b>c)>d", "to(var:d) assign:=(var:a greater(var:b var:c))"}, {" a<b>c", "to(var:c) less(var:a var:b)"}, {" a&&b>c", "to(var:c) and(var:a var:b)"}, {" a~b>c", "to(var:c) match(var:a var:b)"}, {" a in b>c", "to(var:c) in:b(var:a)"}, {" !a>b", "to(var:b) not(var:a)"}, {" a>=b", "none greatereq(var:a var:b)"}, {" a>=b>c", "to(var:c) greatereq(var:a var:b)"}, {" sprintf(a>b,c>d)>e", "to(var:e) builtin:sprintf(greater(var:a var:b) greater(var:c var:d))"}, {" a?(b>c):d", "none cond(var:a greater(var:b var:c) var:d)"},
			// Behind it > compares again.
			{" a>b;c>d;print(e)>f;g>h", "to(var:b) var:a)|expr(greater(var:c var:d)) print(to(var:f) var:e) expr(greater(var:g var:h)"}, {"(a);c>d", "none var:a)|expr(greater(var:c var:d)"},
		} {
			want := op + "(" + strings.Replace(x[1], ")|", ") ", 1) + ")"
			checkBlocks(t, [][2]string{{op + x[0], want}, {op + x[0] + ";", want}, {op + x[0] + "\n", want}})
		}
	}
	checkBlocks(t, [][2]string{
		{"print", "print(none)"}, {"print()", "print(none)"}, {"print(\n\n)", "print(none)"}, {"print>a", "print(to(var:a))"}, {"print >>a b", "print(append(cat(var:a var:b)))"}, {"print()>a", "print(to(var:a))"}, {"print()>>a", "print(append(var:a))"}, {"print;a", "print(none) expr(var:a)"}, {"print\na", "print(none) expr(var:a)"}, {"print(a,b)\n-c", "print(none var:a var:b) expr(neg(var:c))"}, {"if(a)print;else print b", "if(var:a print(none) print(none var:b))"}, {"print (a)\n(b)", "print(none var:a) expr(var:b)"}, {"printf(\"%s\",a)>\"b\"", "printf(to(str:b) str:%s var:a)"}, {"print#a\n", "print(none)"},
	})
}

// P13.1: what print and printf don't take.
func TestPrintRefused(t *testing.T) {
	for _, op := range []string{"print", "printf"} {
		syntax(t, "{"+op+" a,@}", "{"+op+"@,a}", "{"+op+" a,@,b}", "{"+op+" a@)}", "{"+op+" a\n@,b}", "{"+op+" a,@;}", "{"+op+" a>@}", "{"+op+" a>@\nb}", "{"+op+" a>b@>c}", "{"+op+" a>b@>>c}", "{"+op+" a>>b@>c}", "{"+op+" a>b@<c}", "{"+op+" a>b@,c}", "{"+op+" a>b@=c}", "{"+op+" a>b@~c}", "{"+op+" a>b @in c}", "{"+op+" a>b@&&c}", "{"+op+" a>b@?c:d}", "{"+op+" a>b/c/@}", "{"+op+" a?b@>c:d}", "{"+op+" a?b:c>d@>e}", "{"+op+" >@}", "{"+op+" > @>a}", "{"+op+" >@;}", "{"+op+" >(a@,b)}", "{"+op+" a>=@=b}", "{"+op+" @else}", "{"+op+" @next}", "{"+op+"@:}", "{"+op+"@=a}", "{"+op+"@[a]}", "{"+op+" a[@]}",
			// A list in brackets is one by what stands behind it alone.
			"{"+op+"(a@,b)c}", "{"+op+"(a@,b)+c}", "{"+op+"(a@,b),c}", "{"+op+"(a@,b)(c)}", "{"+op+"(a@,b)=c}", "{"+op+"(a@,b)<c}", "{"+op+"(a@,b)>=c}", "{"+op+"(a@,b)in c}", "{"+op+"(a@,b)?c:d}", "{"+op+"(a@,b)else}", "{"+op+"(a@,b", "{"+op+"(a@,b;c", "{"+op+"(@)a}", "{"+op+"(@", "{"+op+"(a@", "{"+op+"((a@,b))}", "{"+op+"((a@,b),c)}", "{"+op+"(a,@)}", "{"+op+"(@,a)}", "{"+op+"(a\n@,b)}", "{"+op+"(a,b\n@c)}", "{"+op+"(a@;b)}", "{"+op+"(a,b)@", "{"+op+"(a@}", "{"+op+"(a>b@>c)}", "{"+op+"(a,b)>c@,d}", "{"+op+"((a)@", "{"+op+"(\"(\"@,a", "{"+op+"(a,b@]);}")
		banned(t, "{"+op+"@|a}", "{"+op+" a@|b}", "{"+op+"(a)@|b}", "{"+op+" a>b@|c}", "{"+op+" a>@|c}", "{"+op+" @close}", "{"+op+"(@close)}", "{"+op+" a,@|}", "{"+op+" a>>@system}")
	}
	// Without an expression printf is told behind all of it.
	syntax(t, "{printf@}", "{printf@;}", "{printf@\n}", "{printf@", "{printf()@}", "{printf()@;a}", "{printf(\n)@\n}", "{printf >a@}", "{printf >a@;}", "{printf >>a b@\n}", "{printf()>a@}", "{printf()>a@", "{printf()@", "{printf@)}", "{for(printf@;;);}", "{for(;;printf@);}", "{if(a)printf@;else b}", "{printf >a@=b}", "{for(;;printf(@));}", "{printf >a b[@}")
	banned(t, "{printf@|a}", "{printf >a@|b}", "{printf >a @close}", "{printf()>a@|b}")
}

// P13.1: a list in brackets goes up to the ) that belongs to its first sign, whatever stands within.
func TestPrintedBrackets(t *testing.T) {
	checkBlocks(t, [][2]string{
		{"print(f(a),(b),c[(d)])", "print(none call:f(var:a) var:b index:c(var:d))"}, {`print("(",a)`, "print(none str:( var:a)"}, {`print(")",a)`, "print(none str:) var:a)"}, {`print("))",(a),"(")>b`, "print(to(var:b) str:)) var:a str:()"}, {"print(/[(]/,a)", "print(none re:[(] var:a)"}, {"print(a,# )\nb)", "print(none var:a var:b)"}, {"print(substr(a,1),b)>c", "print(to(var:c) builtin:substr(var:a num:1) var:b)"},
	})
	syntax(t, "{print(1,@[);}", "{print(1,2@}\n{f);}", "{print(1@,2}\n{f();}", "{print(1,2@]);}", "{print(a[1@);b]}", "{print((a@,b);}", "{print((1@,2)\n}", "{print(1@,2\n")
}
