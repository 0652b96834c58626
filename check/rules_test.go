package check

import (
	"testing"

	"swath/api"
)

func TestExamples(t *testing.T) { // P8.1
	wantPlace(t, "fn main() { merge(); return 0; }", 12, api.ErrHint)
	if d := wantTaken(t, "fn main() { let x = 1; while x { merge(x); x = x - 1; } return x; }"); len(d.Merges) != 1 {
		t.Error(d.Merges)
	}
}

func TestNamesOfRecords(t *testing.T) { // P8.1
	wantTaken(t, "rec P {} rec Q {} rec p {} rec P1 {} fn main() {}")
	wantFault(t, "rec P {} rec @P {} fn main() {}", api.ErrScope)
	wantFault(t, "rec P {a} rec Q {b} rec @P {c} fn main() {}", api.ErrScope)
	wantFault(t, "rec P {} fn main() {} rec @P {}", api.ErrScope)
	wantFault(t, "rec P {} rec @P {} rec P {} fn main() {}", api.ErrScope)
	// Records, fields, functions and variables are called apart from one another.
	wantTaken(t, "rec main {} rec f {f, x, P} rec x {y} fn main() {} fn f(f) { let x = f; let P = x.x; return f(P) == new f; } fn x() {} fn P() {} fn y() {}")
}

func TestNamesOfFields(t *testing.T) { // P8.1
	wantTaken(t, "rec P {a, b, A, aa} rec Q {c, P, Q} fn main() {}")
	wantFault(t, "rec P {a, @a} fn main() {}", api.ErrScope)
	wantFault(t, "rec P {a, b, c, @b, a} fn main() {}", api.ErrScope)
	wantFault(t, "rec P {a} rec Q {@a} fn main() {}", api.ErrScope)
	wantFault(t, "rec P {a, b} rec O {} rec Q {c, d, @b, a} fn main() {}", api.ErrScope)
	wantFault(t, "rec P {a} fn main() {} rec Q {b} fn a(a) {} rec R {@a}", api.ErrScope)
}

func TestNamesOfFunctions(t *testing.T) { // P8.1
	wantTaken(t, "fn f() {} fn main() {} fn F() {} fn f1() {}")
	wantFault(t, "fn f() {} fn @f() {} fn main() {}", api.ErrScope)
	wantFault(t, "fn f() {} fn main() {} fn g() {} fn @f(a, b) {}", api.ErrScope)
	wantFault(t, "fn main() {} fn @main() {}", api.ErrScope)
	wantFault(t, "fn main() {} rec P {} fn @main(a) {}", api.ErrScope)
	wantFault(t, "fn main(a) {} fn @main() {}", api.ErrScope)
}

func TestMain(t *testing.T) { // P8.1
	wantTaken(t, "fn main() {}")
	wantTaken(t, "fn f(a) {} rec main {main} fn main() {} fn g() {}")
	for _, s := range []string{
		"", "rec P {}", "rec main {}", "rec P {main}", "fn f() {}", "fn Main() {}", "fn main_() {}", "fn mai() {}",
		"fn f(main) { let a = 1; }", "fn f() { let main = 1; }",
		"fn main(a) {}", "fn f() {} fn main(a, b) {}", " fn main(main) {}",
	} {
		wantPlace(t, s, 0, api.ErrMain)
	}
}

func TestParameters(t *testing.T) { // P8.1
	wantTaken(t, "fn f(a, b, c, f, main, A) {} fn g(a, b) {} fn main() {}")
	wantFault(t, "fn f(a, @a) {} fn main() {}", api.ErrScope)
	wantFault(t, "fn f(a, b, c, @b, a) {} fn main() {}", api.ErrScope)
	wantFault(t, "fn main() {} fn f(a, b) {} fn g(b, @b) {}", api.ErrScope)
	// They are in scope in the whole body, however deep.
	wantBody(t, "a = b + c; if a { b = c; while b { c = a; } } else { a = b; } return a;", api.OK)
	// And in no other function.
	wantFault(t, "fn f(a) {} fn main() { return @a; }", api.ErrScope)
	wantFault(t, "fn main() { return @a; } fn f(a) {}", api.ErrScope)
}

func TestLetsInScope(t *testing.T) { // P8.1
	for _, body := range []string{
		"let v = 1; v = v + 1; return v;",
		"let v = 1; if v { v = 2; } else { v = 3; } while v { v = v - 1; } return v;",
		"let v = 1; if a { while b { if c { out v; } } }",
		"let u = 1; let v = u; let w = v;",
		// One that was in scope in a block that has ended.
		"if a { let v = 1; } let v = 2; return v;",
		"if a { let v = 1; } else { let v = 2; } let v = 3;",
		"if a { } else { let v = 2; } while b { let v = 3; } if c { let v = 4; out v; }",
		"while a { while b { let v = 1; } let v = 2; } let v = 3;",
		"let f = 1; let P = 2; let x = 3; let main = f + P + x;",
	} {
		wantBody(t, body, api.OK)
	}
	// The same names in two functions are two variables.
	wantTaken(t, "fn f() { let v = 1; } fn main() { let v = 2; } fn g(v) {}")
}

func TestLetsTwice(t *testing.T) { // P8.1
	for _, body := range []string{
		"let v = 1; let @v = 2;",
		"let v = 1; let u = 2; let @v = 3; let v = 4;",
		"let v = 1; if v { let @v = 2; }",
		"let v = 1; if v { } else { let @v = 2; }",
		"let v = 1; while v { let @v = 2; }",
		"let v = 1; while a { if b { } else { while c { let @v = 2; } } }",
		"if a { let v = 1; if b { let @v = 2; } }",
		"if a { let v = 1; } let v = 2; let @v = 3;",
		"if a { let v = 1; } let v = 2; if b { let @v = 3; }",
		"while a { let u = 1; let v = 2; let @u = 3; }",
		// Of a parameter's.
		"let @a = 1;", "let @c = 1;", "if a { let @b = 1; }", "let v = 1; while v { while v { let @b = 1; } }",
	} {
		wantBody(t, body, api.ErrScope)
	}
}

func TestNamesOutOfScope(t *testing.T) { // P8.1
	for _, body := range []string{
		"return @v;", "out @v;", "stop @v;", "@v = 1;", "a = @v;", "let u = @v;", "if @v { }", "while @v { }", "g(a, @v);",
		"return @f;", "return @P;", "return @x;", "return @g;", "return @main;", "return @A;", "return @aa;",
		// A let's own name in its expression.
		"let v = @v;", "let v = 1 + (a - @v);", "let v = g(a, @v);",
		// Variables can't be used ahead of where they stand.
		"out @v; let v = 1;", "if a { out @v; } let v = 1;", "while @v { let v = 1; }", "if @v { let v = 1; }",
		// Nor behind the end of their block.
		"if a { let v = 1; } out @v;", "if a { let v = 1; } else { out @v; }", "while a { let v = 1; } @v = 2;", "while a { if b { let v = 1; } out @v; }",
		"if a { } else { let v = 1; } out @v;", "if a { let v = 1; if b { let w = v; } out @w; }",
		// As each kid of each expression and place.
		"return -@v;", "return @v + 1;", "return 1 + @v;", "return @v.x;", "return @v[1];", "return a[@v];", "return g(@v, 1);", "return arr(@v);", "return len(@v);", "return img(@v);", "return promote(@v);",
		"@v.x = 1;", "@v[1] = 1;", "a[@v] = 1;", "a.x.y[1][@v].z = 1;", "root = @v;", "root.x = @v;", "return !~-(1 < (2 | (3 & (4 << (5 * @v)))));",
	} {
		wantBody(t, body, api.ErrScope)
	}
}

func TestCalls(t *testing.T) { // P8.1
	// Ahead of where the function stands, behind it, within it, as each statement and expression.
	wantTaken(t, "fn main() { f(1, 2); return g() + main(); } fn f(a, b) { return f(b, a); } fn g() { g(); return f(g(), main()); }")
	for _, body := range []string{"g(1, 2);", "h();", "main();", "f(1, 2, 3);", "out g(h(), g(h(), main()));"} {
		wantBody(t, body, api.OK)
	}
	for _, body := range []string{
		"@k();", "return @k();", "out 1 + @k(1);", "@P();", "return @x();", "let k = 1; @k();", "return @a();", "g(a, @k());", "return -@k(1, 2)[3].x;", "@F(1, 2, 3);", "return promote(@k());",
	} {
		wantBody(t, body, api.ErrScope)
	}
	for _, body := range []string{
		"@g();", "@g(1);", "@g(1, 2, 3);", "@h(1);", "@main(1);", "@f();", "@f(1, 2);", "@f(1, 2, 3, 4);", "return g(1, @g(1));", "return @h(h());", "out -@g(1).x;", "a[@h(1)] = 2;", "return promote(@g(a));",
	} {
		wantBody(t, body, api.ErrArity)
	}
}

func TestFieldsAndRecordsNamed(t *testing.T) { // P8.1
	// Ahead of where the record stands.
	wantTaken(t, "fn main() { let p = new P; p.x = p.y; return p.z.x; } rec P {x, y} rec Q {z}")
	for _, body := range []string{"return new P;", "return new Q.z;", "a.x = b.y.z;", "a[1].x.y = root.z;", "return 1.x;", "return null.x;", "return (a + b).x;"} {
		wantBody(t, body, api.OK)
	}
	// A field's fault is at its dot.
	for _, body := range []string{
		"return a@.k;", "return a@.P;", "return a@.a;", "return a@.f;", "return a@.X;", "a@.k = 1;", "a@.k.x = 1;", "a.x@.k = 1;", "a.x = b@.k;", "return a.x.y.z@.k;", "return a[b@.k];", "return g(1, a@.k);", "return promote(a@.k);",
	} {
		wantBody(t, body, api.ErrScope)
	}
	// A record's is at its name.
	for _, body := range []string{
		"return new @K;", "return new @x;", "return new @f;", "return new @a;", "return new @p;", "a.x = new @K;", "g(new P, new @K);", "return new @K.x;", "let K = 1; return new @K;",
	} {
		wantBody(t, body, api.ErrScope)
	}
}

func TestWhereMergesStand(t *testing.T) { // P8.1
	for _, body := range []string{
		"while a { merge(); }", "while a { merge(a); a = 1; }", "if a { while b { merge(); } }", "while a { merge(); while b { merge(); } }", "while a { while b { merge(); } }", "while a { let v = 1; while b { merge(v, a); } }",
		"while a { merge(); let v = 1; while v { merge(v); } } while b { merge(); }",
	} {
		wantBody(t, body, api.OK)
	}
	for _, body := range []string{
		"@merge();", "a = 1; @merge();", "return a; @merge(a);", "while a { } @merge();", "while a { merge(); } @merge();",
		"if a { @merge(); }", "if a { } else { @merge(); }", "if a { while b { merge(); } @merge(); }",
		"while a { a = 0; @merge(); }", "while a { merge(); @merge(); }", "while a { merge(a); b = 1; @merge(a); }", "while a { while b { } @merge(); }",
		"while a { if b { @merge(); } }", "while a { if b { } else { @merge(); } }", "while a { merge(); if b { @merge(); } }", "while a { let v = 1; @merge(v); }",
	} {
		wantBody(t, body, api.ErrHint)
	}
	wantFault(t, "fn main() { @merge(); }", api.ErrHint)
}

func TestNamesOfMerges(t *testing.T) { // P8.1
	for _, body := range []string{
		"while 1 { merge(a, b, c); }", "while 1 { merge(c, a); }", "let v = 1; while 1 { merge(a, b, c, v); }", "let v = 1; while 1 { let w = 2; while 1 { merge(w, v); } }",
	} {
		wantBody(t, body, api.OK)
	}
	for _, body := range []string{
		"let v = 1; while 1 { @merge(a, b, c, v, a); }", "let v = 1; let w = 2; while 1 { @merge(a, b, c, v, w); }", "while 1 { @merge(a, a, a, a, a); }", "while 1 { @merge(q, r, s, t, u, v); }",
	} {
		wantBody(t, body, api.ErrHint)
	}
	for _, body := range []string{
		// Not in scope.
		"while 1 { merge(@v); }", "while 1 { merge(a, @v); }", "while 1 { merge(a, b, c, @v); }", "while 1 { merge(@f); }", "while 1 { merge(@P); }",
		"while 1 { merge(@v); let v = 1; }", "if a { let v = 1; } while 1 { merge(@v); }", "while 1 { merge(a); while 1 { merge(@v); } let v = 1; }", "while 1 { merge(@v); } let v = 1;",
		// Twice.
		"while 1 { merge(a, @a); }", "while 1 { merge(a, b, @a, b); }", "while 1 { merge(a, b, c, @b); }", "while 1 { merge(c, b, @b, c); }",
	} {
		wantBody(t, body, api.ErrScope)
	}
	// What one merge names another may name again.
	wantBody(t, "while 1 { merge(a, b); while 1 { merge(b, a); } } while 1 { merge(a); }", api.OK)
}
