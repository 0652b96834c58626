package parse

import (
	"strconv"
	"strings"
	"testing"

	"swath/api"
)

func TestPrograms(t *testing.T) { // P6.1
	for s, want := range map[string]string{
		"": "(program)", " \t\r\n": "(program)", "// fn": "(program)",
		"rec P {}":                "(program (rec P))",
		"rec P {x}":               "(program (rec P x))",
		"rec P {x, y,z}":          "(program (rec P x y z))",
		"rec P {P, P}":            "(program (rec P P P))",
		"fn f() {}":               "(program (fn f (block)))",
		"fn f(x) {}":              "(program (fn f x (block)))",
		"fn f(x,y , f) {}":        "(program (fn f x y f (block)))",
		"rec P{}rec Q{a}":         "(program (rec P) (rec Q a))",
		"fn f(){}rec P{}fn g(){}": "(program (fn f (block)) (rec P) (fn g (block)))",
		"// a\nfn f // b {\n(a//)\n) // }\n{\n//\n}//": "(program (fn f a (block)))",
	} {
		l := taken(t, s)
		if got := told(l, len(l)-1); got != want {
			t.Errorf("%s is %s; wanted %s", s, got, want)
		}
	}
}

func TestProgramsRefused(t *testing.T) { // P6.1
	for _, marked := range []string{
		"@x", "@1", "@;", "@{}", "@}", "@(", "@let x = 1;", "@return 1;", "@f();", "@root", "@else", "@merge();",
		"rec@", "rec @{", "rec @fn", "rec @1", "rec @rec P {}", "rec P@", "rec P @(", "rec P @}", "rec P @x", "rec P @;", "rec P @Q {}",
		"rec P {@", "rec P {@,}", "rec P {@1}", "rec P {@;}", "rec P {@)", "rec P {@let}", "rec P {@{", "rec P {@.x}", "rec P {@new x}",
		"rec P {x@", "rec P {x @y}", "rec P {x@;}", "rec P {x@)", "rec P {x@.y}", "rec P {x@(}", "rec P {x@= 1}", "rec P {x @1}", "rec P {x,@", "rec P {x,@}", "rec P {x,@,y}", "rec P {x,@root}", "rec P {x,@(", "rec P {x,y,@}",
		"rec P {} @;", "rec P {}@}", "rec P {}@,", "rec P {} @x", "rec P {} @{}",
		"fn@", "fn @(", "fn @if() {}", "fn @1() {}", "fn @{}", "fn f@", "fn f @{}", "fn f @x", "fn f@;", "fn f@)", "fn f @[", "fn f @,",
		"fn f(@", "fn f(@,)", "fn f(@1) {}", "fn f(@new) {}", "fn f(@(", "fn f(@{", "fn f(@-x) {}", "fn f(x@", "fn f(x @y) {}", "fn f(x@}", "fn f(x@;", "fn f(x@=1) {}", "fn f(x@.y) {}", "fn f(x,@", "fn f(x,@) {}", "fn f(x,@,y) {}", "fn f(x,@in) {}", "fn f(x,y@]",
		"fn f()@", "fn f()@;", "fn f() @x", "fn f() @return 1;", "fn f()@(", "fn f()@)", "fn f() @}", "fn f() @fn g() {}",
		"fn f() {@", "fn f() { f(); @", "fn f() {@)", "fn f() {@]", "fn f() {@;}", "fn f() {@{}}", "fn f() {@,}", "fn f() {@fn g() {}}", "fn f() {@rec P {}}", "fn f() {@else {}}", "fn f() {@.x = 1;}", "fn f() {@= 1;}", "fn f() {@[0] = 1;}",
		"fn f() {@-x;}", "fn f() {@!x = 1;}", "fn f() {@~x;}", "fn f() {@+x;}", "fn f() {@*x;}",
		"fn f() {}@}", "fn f() {}@;", "fn f() {} @x", "fn f() {}@{}", "fn f() {}@(", "fn f() {} @return 1;",
	} {
		wantRefused(t, marked)
	}
	// The end stands behind blanks and notes.
	wantRefused(t, "fn f( // x)\n  @")
	wantRefused(t, "fn f() { // }@")
}

func TestStatements(t *testing.T) { // P6.1
	for body, want := range map[string]string{
		"":                                       "",
		"let x = 1;":                             "(let x 1)",
		"let f = f(f);":                          "(let f (call f f))",
		"if x {}":                                "(if x (block) (none))",
		"if x {} else {}":                        "(if x (block) (block))",
		"if x {f();} else {g(); h();}":           "(if x (block (do (call f))) (block (do (call g)) (do (call h))))",
		"if a {if b {}} else {}":                 "(if a (block (if b (block) (none))) (block))",
		"if a {if b {} else {}}":                 "(if a (block (if b (block) (block))) (none))",
		"if a {} else {if b {} else {}} if c {}": "(if a (block) (block (if b (block) (block)))) (if c (block) (none))",
		"while x {}":                             "(while x (block))",
		"while x {while y {x = y;}}":             "(while x (block (while y (block (set x y)))))",
		"return 1;":                              "(return 1)",
		"out 1;":                                 "(out 1)",
		"stop 1;":                                "(stop 1)",
		"merge();":                               "(merge)",
		"merge(x);":                              "(merge x)",
		"merge(x, y,x);":                         "(merge x y x)",
		"merge(a, b, c, d, e, f);":               "(merge a b c d e f)",
		"x = 1;":                                 "(set x 1)",
		"f();":                                   "(do (call f))",
		"f(1);g(1,2);":                           "(do (call f 1)) (do (call g 1 2))",
		"return 1; return 2; out 3; x = 4; stop 5; let y = 6;": "(return 1) (return 2) (out 3) (set x 4) (stop 5) (let y 6)",
	} {
		wantBody(t, body, want)
	}
}

func TestStatementsRefused(t *testing.T) { // P6.1
	for _, marked := range []string{
		"let @}", "let @1 = 2;", "let @new = 1;", "let @(x) = 1;", "let @= 1;", "let @root = 1;", "let x @;", "let x @1;", "let x@.a = 1;", "let x@[0] = 1;", "let x @== 1;", "let x@, y = 1;", "let x = @;", "let x = @let", "let x = @= 1;", "let x = @{", "let x = 1@}", "let x = 1 @= 2;", "let x = 1@, 2;", "let x = 1@)", "let x = y @z;",
		"if @{}", "if @;", "if x @;", "if x @f();", "if x @return 1;", "if x @else {}", "if x {} else @if y {}", "if x {} else @;", "if x {} else @f();", "if x {} else {} @else {}", "if (x @{}", "if x @) {}", "if x @= 1 {}", "if x {} @;", "if x {@]",
		"while @{}", "while @;", "while x @;", "while x @f();", "while x {} @else {}", "while x @= 1 {}", "while x@, y {}",
		"return @;", "return @}", "return @return 1;", "return 1 @}", "return 1 @}", "return x @= 1;", "return x@, y;", "return x@) ;", "return x @{}", "return x @y;", "return @out 1;",
		"out @;", "out 1@}", "out 1@, 2;", "out x @= 1;", "out @= 1;", "out 1 @2;",
		"stop @;", "stop 1@}", "stop 1@, 2;", "stop x @= 1;", "stop @stop 1;",
		"merge@}", "merge@;", "merge @x;", "merge@{", "merge(@}", "merge(@;", "merge(@1);", "merge(@,);", "merge(@null);", "merge(@(x));", "merge(@-x);", "merge(x@}", "merge(x @y);", "merge(x@.a);", "merge(x@[0]);", "merge(x@());", "merge(x @+ 1);", "merge(x@;", "merge(x,@);", "merge(x,@1);", "merge(x,@root);", "merge()@}", "merge() @}", "merge()@.a = 1;", "merge() @= 1;", "merge(x) @f();",
		"f()@}", "f() @}", "f() @g();", "f() @= 2;", "f()@,", "f()@)", "f() @+ 1;", "f() @== 1;",
		"x @}", "x@}", "x @y;", "x@, y = 1;", "x @+ 1;", "x @== 1;", "x @- 1 = 2;", "x @+ 1 = 2;", "x@)", "x@{",
		"x = @;", "x = 1@}", "x = 1 @}", "x = y @= 1;", "x = @= 1;", "x = 1@, 2;", "x = 1@)", "x = @let y = 1;",
	} {
		wantBodyRefused(t, marked)
	}
}

// Which statements that begin as expressions do are taken: of each with = behind it and with ; behind it.
func TestPlacesAndCalls(t *testing.T) { // P6.1
	for place, want := range map[string]string{
		"x": "x", "root": "(root)", "x.a": "(.a x)", "x[0]": "(elem x 0)", "x.a.b": "(.b (.a x))", "x[0][1]": "(elem (elem x 0) 1)",
		"root.a": "(.a (root))", "root[0]": "(elem (root) 0)", "f().a": "(.a (call f))", "f(1)[0]": "(elem (call f 1) 0)", "1 .a": "(.a 1)", "1[0]": "(elem 1 0)", "null.a": "(.a (null))", "new P.a": "(.a (new P))", "new P[0]": "(elem (new P) 0)",
		"arr(1)[0]": "(elem (arr 1) 0)", "len(x)[0]": "(elem (len x) 0)", "in()[0]": "(elem (in) 0)", "img(1).a": "(.a (img 1))", "size()[0]": "(elem (size) 0)", "promote(x).a": "(.a (promote x))",
		"(x + 1).a": "(.a (+ x 1))", "(-x)[0]": "(elem (- x) 0)", "(x == y).a": "(.a (== x y))",
	} {
		for range 3 {
			wantBody(t, place+" = 2;", "(set "+want+" 2)")
			wantBodyRefused(t, place+"@;")
			wantBodyRefused(t, place+" @== 2;")
			wantBodyRefused(t, place+" @}")
			place = "(" + place + ")"
		}
	}
	for call, want := range map[string]string{"f()": "(call f)", "f(x, 1)": "(call f x 1)", "f(g())": "(call f (call g))", "f(x == 1)": "(call f (== x 1))"} {
		for range 3 {
			wantBody(t, call+";", "(do "+want+")")
			wantBodyRefused(t, call+" @= 2;")
			wantBodyRefused(t, call+" @}")
			call = "(" + call + ")"
		}
	}
	for _, neither := range []string{"1", "0x1F", "'a'", "null", "new P", "arr(1)", "len(x)", "in()", "img(1)", "size()", "promote(x)", "promote(f())", "(x + 1)", "(f() + 1)", "(-x)", "(!f())", "(x == y)", "(x < f())", "(~root)"} {
		for range 3 {
			wantBodyRefused(t, neither+"@;")
			wantBodyRefused(t, neither+" @= 2;")
			wantBodyRefused(t, neither+"@)")
			neither = "(" + neither + ")"
		}
	}
}

func TestFirsts(t *testing.T) { // P6.1
	for s, want := range map[string]string{
		"0": "0", "1": "1", "null": "(null)", "root": "(root)", "x": "x", "_": "_", "roots": "roots", "f()": "(call f)", "f(1)": "(call f 1)", "f(1,x , f())": "(call f 1 x (call f))", "f((1), -2)": "(call f 1 (- 2))", "f(a < b, c == d)": "(call f (< a b) (== c d))",
		"new P": "(new P)", "new new_": "(new new_)", "arr(3)": "(arr 3)", "arr(a < 1)": "(arr (< a 1))", "len(x)": "(len x)", "in()": "(in)", "img(0)": "(img 0)", "size()": "(size)", "promote(x)": "(promote x)", "promote(promote(x))": "(promote (promote x))",
		"(x)": "x", "((x))": "x", "(1 + 2)": "(+ 1 2)", "(1 < 2)": "(< 1 2)", "arr (\n3 // )\n)": "(arr 3)",
	} {
		wantExpression(t, s, want)
	}
	for _, marked := range []string{
		"@", "@)", "@let", "@rec", "@fn", "@if", "@else", "@while", "@return", "@out", "@stop", "@merge()", "@{}", "@[0]", "@.a", "@,", "@=", "@+ 1", "@* 1", "@/ 1", "@% 1", "@<< 1", "@>> 1", "@& 1", "@| 1", "@^ 1", "@== 1", "@!= 1", "@< 1", "@<= 1",
		"1 @2", "1 @x", "1@(2)", "x @1", "x @y", "x @root", "null@(1)", "root@()", "null @x",
		"f(@", "f(@,)", "f(@;", "f(@]", "f(@{", "f(@let", "f(1@", "f(1 @2)", "f(1@;", "f(1@]", "f(1,@)", "f(1,@,2)", "f(1 @= 2)", "f(1)@(2)", "f()@()", "(f)@()", "(x)@(1)",
		"new @", "new @new P", "new @(P)", "new @1", "new @root", "new P@()", "new P@(1)", "new P @{}",
		"arr@", "arr @3", "arr@[3]", "arr(@)", "arr(3@, 4)", "arr(3@]", "arr@;", "len@", "len @x", "len(@)", "len(x@, y)", "len@.a", "img@", "img @1", "img(@)", "img(1@, 2)", "promote@", "promote @x", "promote(@)", "promote(x@, y)",
		"in@", "in @x", "in(@1)", "in(@,)", "in(@", "in@;", "in()@()", "size@", "size(@x)", "size @1", "size@;", "size()@()",
		"(@)", "(@", "(1@", "(1@]", "(1@;", "(1@, 2)", "(x @= 1)", "(1@}", "((1)@", "(@;",
	} {
		wantBodyRefused(t, "return "+marked+";")
	}
}

func TestNamesThatAreWords(t *testing.T) { // P6.1
	for _, word := range words {
		for _, marked := range []string{"rec @% {}", "rec P {@%}", "rec P {x, @%}", "fn @%() {}", "fn f(@%) {}", "fn f(x, @%) {}", "fn f() { let @% = 1; }", "fn f() { merge(@%); }", "fn f() { merge(x, @%); }", "fn f() { return x.@%; }", "fn f() { x.@% = 1; }", "fn f() { return new @%; }"} {
			wantRefused(t, strings.ReplaceAll(marked, "%", word))
			taken(t, strings.NewReplacer("%", word+"_", "@", "").Replace(marked))
			taken(t, strings.NewReplacer("%", strings.ToUpper(word), "@", "").Replace(marked))
		}
	}
}

func TestNumbers(t *testing.T) { // P6.1
	for s, want := range map[string]string{
		"0": "0", "00": "0", "7": "7", "007": "7", "10": "10", "0100": "100", "08": "8", "0x0": "0", "0x1F": "31", "0x1f": "31", "0x00ff": "255", "0xABCdef": "11259375",
		"'a'": "97", "' '": "32", "'~'": "126", "'0'": "48", "'''": "39", "'('": "40", "'}'": "125", "';'": "59", "'/'": "47",
		"9223372036854775807": "9223372036854775807", "0x7fffffffffffffff": "9223372036854775807", "00009223372036854775807": "9223372036854775807", strings.Repeat("0", 100) + "5": "5", "0x" + strings.Repeat("0", 100) + "b": "11",
	} {
		wantExpression(t, s, want)
	}
	for c := 32; c <= 126; c++ {
		wantBody(t, "out '"+string(rune(c))+"';", "(out "+strconv.Itoa(c)+")")
	}
	for _, s := range []string{"9223372036854775808", "0x8000000000000000", "0x10000000000000000", "18446744073709551617", "12a", "0x", "'", "''", "'ab'", "1_0"} {
		wantFault(t, "fn f() { return "+s+"; }", 16, api.ErrNumber)
		wantFault(t, "fn f() { return -"+s+"; }", 17, api.ErrNumber)
	}
	// A number has no sign of its own, so the least one can't be written.
	wantBody(t, "out -9223372036854775807 - 1;", "(out (- (- 9223372036854775807) 1))")
}

// bound is what names with operators between them are by the grammar's lines: it parts them at the last of the least tight ones.
func bound(names, between []string) string {
	if len(between) == 0 {
		return names[0]
	}
	at := 0
	for i, operator := range between {
		if lineIs(operator) <= lineIs(between[at]) {
			at = i
		}
	}
	return "(" + between[at] + " " + bound(names[:at+1], between[:at]) + " " + bound(names[at+1:], between[at+1:]) + ")"
}

// wantBound wants operators between names to bind by their lines, or the second comparison to be refused.
func wantBound(t *testing.T, between ...string) {
	t.Helper()
	names := []string{"a", "b", "c", "d"}[:len(between)+1]
	s, compared := "a", 0
	for i, operator := range between {
		if lineIs(operator) == 0 {
			if compared++; compared == 2 {
				s += " @" + operator + " " + names[i+1]
				continue
			}
		}
		s += " " + operator + " " + names[i+1]
	}
	if compared > 1 {
		wantBodyRefused(t, "return "+s+";")
		return
	}
	wantBody(t, "return "+s+";", "(return "+bound(names, between)+")")
}

func TestOperators(t *testing.T) { // P6.1
	all := everyOperator()
	if len(all) != 14 {
		t.Fatal(all)
	}
	for _, x := range all {
		wantExpression(t, "a "+x+" b", "("+x+" a b)")
		wantBound(t, x)
		for _, y := range all {
			wantBound(t, x, y)
			wantBody(t, "return (a "+x+" b) "+y+" c;", "(return ("+y+" ("+x+" a b) c))")
			wantBody(t, "return a "+x+" (b "+y+" c);", "(return ("+x+" a ("+y+" b c)))")
			wantBodyRefused(t, "return a "+x+" @"+strings.ReplaceAll(y, "-", "*")+" b;")
			for _, z := range all {
				wantBound(t, x, y, z)
			}
		}
		wantBodyRefused(t, "return a "+x+" @;")
		wantBodyRefused(t, "return a "+x+" @)")
		wantBodyRefused(t, "return a "+x+" @let;")
		wantBodyRefused(t, "return (a "+x+" @) b;")
		wantBodyRefused(t, "a @"+x+" b;")
	}
	for _, marked := range []string{"a &@& b", "a |@| b", "a +@+ b", "a *@* b", "a /@*b", "a <<@< b", "a <=@= b", "a ==@= b", "a !=@= b", "a @=< b", "a @= b", "a @! b", "a @~ b"} {
		wantBodyRefused(t, "return "+marked+";")
	}
}

func TestSigns(t *testing.T) { // P6.1
	unary := []string{"-", "!", "~"}
	for _, x := range unary {
		wantExpression(t, x+"a", "("+x+" a)")
		wantExpression(t, x+" 1", "("+x+" 1)")
		wantExpression(t, x+"a.b[0]", "("+x+" (elem (.b a) 0))")
		wantExpression(t, "("+x+"a).b", "(.b ("+x+" a))")
		wantExpression(t, x+"f(1)", "("+x+" (call f 1))")
		wantExpression(t, x+"(a + b)", "("+x+" (+ a b))")
		for _, y := range unary {
			wantExpression(t, x+" "+y+" a", "("+x+" ("+y+" a))")
			wantExpression(t, x+"("+y+"a)", "("+x+" ("+y+" a))")
			for _, z := range unary {
				wantBody(t, "out "+x+y+z+"a;", "(out ("+x+" ("+y+" ("+z+" a))))")
			}
			for _, operator := range everyOperator() {
				wantBody(t, "out "+x+"a "+operator+" "+y+"b;", "(out ("+operator+" ("+x+" a) ("+y+" b)))")
			}
		}
		for _, marked := range []string{"@;", "@)", "@+a", "@*a", "@==a", "@[0]", "@.a", "@let", "a @!b", "a @~b", "a @!", "(@)"} {
			wantBodyRefused(t, "out "+x+" "+marked+";")
		}
	}
	wantBody(t, "out a--b;", "(out (- a (- b)))")
	wantBody(t, "out a - - - b;", "(out (- a (- (- b))))")
	wantBody(t, "out !a != !b;", "(out (!= (! a) (! b)))")
	wantBodyRefused(t, "out @!=a;")
}

func TestFieldsAndElements(t *testing.T) { // P6.1
	for s, want := range map[string]string{
		"x.a": "(.a x)", "x . a": "(.a x)", "x.a.b.c": "(.c (.b (.a x)))", "x[1]": "(elem x 1)", "x[1][2]": "(elem (elem x 1) 2)", "x[y[z[1]]]": "(elem x (elem y (elem z 1)))", "x.a[1].b[2]": "(elem (.b (elem (.a x) 1)) 2)",
		"x[a < b]": "(elem x (< a b))", "x[-1]": "(elem x (- 1))", "f(1).a[f(2)]": "(elem (.a (call f 1)) (call f 2))", "x + y.a[0]": "(+ x (elem (.a y) 0))", "x.a * y[0]": "(* (.a x) (elem y 0))", "(x + y).a": "(.a (+ x y))", "x.x": "(.x x)", "(x.a).b": "(.b (.a x))", "x[(1)]": "(elem x 1)",
		"1[2]": "(elem 1 2)", "null.a[0]": "(elem (.a (null)) 0)", "root.a": "(.a (root))", "new P.a": "(.a (new P))", "new P[0].a": "(.a (elem (new P) 0))", "arr(2)[0]": "(elem (arr 2) 0)", "len(x).a": "(.a (len x))", "in().a": "(.a (in))", "img(1)[2]": "(elem (img 1) 2)", "size().a": "(.a (size))", "promote(x).a": "(.a (promote x))", "'a'.b": "(.b 97)",
	} {
		wantExpression(t, s, want)
	}
	for _, marked := range []string{
		"x.@", "x.@1", "x.@(a)", "x.@.a", "x.@[0]", "x.@root", "x.@-a", "x.a@(1)", "x.a@()", "x[0]@(1)", "x[0]@()", "x.a @b", "x[0] @y", "x[0] @1",
		"x[@", "x[@]", "x[@,", "x[1@", "x[1@)", "x[1@, 2]", "x[1@;", "x[1@}", "x[1 @= 2]", "x[1]@]", "x.a@]", "x[@let]", "x[1 @2]", "x@{0}",
	} {
		wantBodyRefused(t, "return "+marked+";")
	}
}

func TestPlaces(t *testing.T) { // P6.1
	for _, marked := range []string{
		"", "  // note\n",
		"  rec  @0P {}", "rec @2P {@0x , @1y}", "fn  @1f( ) @0{ }", "fn @3f(@0x,  @1y) @2{}", "\nrec @0P {} rec @1Q {} fn @3f() @2{}",
		"fn @3f() @2{ let  @1x = @0:1; }", "fn @4f(@0x) @3{ @2@1g(); } rec @5P {}",
	} {
		wantPlaces(t, marked)
	}
	for _, marked := range []string{
		"let  @1x = @0y;", "let @3x = @0y  @2+ @1z;",
		"@0x  @2= @1y;", "(@0x ) @2= (@1y);", "@0x @1. a @3= @2y;", "@0x  @2[@1y] @4= @3z;", "(@0x@1.a) @3= @2y;", "@0root @2= @1y;",
		" @3if  @0x  @1{}", "@3if @0x @1{} else  @2{}", "@3if (@0x) @1{} else @2{}", "@4if (@1-@0x) @2{}",
		"@2while  @0x @1{}", "@1return  @0x;", "@1return (@0x);", "@1out  @0x;", "@1stop  @0x;",
		"@0merge ( );", "@2merge( @0x, @1y);",
		" @1@0f ( );", "( @1@0f());", "((@2@1f(@0x)));",
		"@1out @0:12;", "@1out  @0:0x1F;", "@1out @0'a';", "@1out @0null;", "@1out @0root;", "@1out (( @0null));",
		"@2out @1-@0x;", "@3out @2! @1~ @0x;", "@2out (@1-(@0x));",
		"@3out @0x @2* @1y;", "@5out @0x @2- @1y  @4- @3z;", "@5out @0x @4+ @1y @3* @2z;", "@3out (@0x) @2== (@1y);", "@5out (@0x @2+ @1y) @4<< @3z;", "@7out @2-@0x@1.a @6% @5~@3y@4.b;",
		"@2out @0x  @1.  a;", "@3out @0x @1.a @2.b;", "@3out @0x  @2[ @1y ];", "@5out @0x@2[@1y]@4[@3z];", "@2out (@0x)@1.a;", "@4out (@0x @2+ @1y) @3. a;",
		"@1out @0f();", "@3out  @2f (@0x, @1y);", "@2out (@1f(@0x));",
		"@1out new  @0P;", "@2out new @0P@1.a;", "@2out  @1arr( @0x);", "@2out @1len (@0x);", "@1out @0in ( );", "@2out @1img(@0x);", "@1out @0size();", "@2out @1promote(@0x);", "@4out @3promote((@0x @2< @1y));",
	} {
		wantPlacesOfBody(t, marked)
	}
}

// wantPlacesOfBody wants the nodes of one statement in a function where their numbers are marked: all are, but for a NodeNone.
func wantPlacesOfBody(t *testing.T, marked string) {
	t.Helper()
	s, places := unmarked(marked)
	const ahead = "fn f() { "
	l := taken(t, ahead+s+" }")
	if len(l) != len(places)+3 && !(strings.Contains(s, "if") && len(l) == len(places)+4) {
		t.Fatalf("%s has %d nodes, of which %d are marked", s, len(l), len(places))
	}
	for n, node := range l[:len(l)-3] {
		want := 0
		if place, is := places[n]; is {
			want = len(ahead) + place
		}
		if node.At != want {
			t.Errorf("%s: node %d, %s, stands at %d; wanted %d", ahead+s, n, told(l, n), node.At, want)
		}
	}
	if l[len(l)-3].At != 7 || l[len(l)-2].At != 3 || l[len(l)-1].At != 0 {
		t.Errorf("%s: the block, the function and the program stand at %v", ahead+s, l[len(l)-3:])
	}
}

func TestExamples(t *testing.T) { // P6.1
	l := taken(t, "fn f(x) { x.a[1] = -x * 2; }")
	if got, want := told(l, len(l)-1), "(program (fn f x (block (set (elem (.a x) 1) (* (- x) 2)))))"; got != want {
		t.Error(got)
	}
	wantFault(t, "fn f() { 1; }", 10, api.ErrSyntax)
	taken(t, "fn main() { let n = 100; let s = 0; while n { merge(); s = s + n; n = n - 1; } return s; }")
	taken(t, "fn main() { return main(); }")
}
