package lower

import (
	"fmt"
	"math"
	"strings"
	"testing"

	"swath/api"
)

// expressionTexts has expressions of each kind, that come to values and to traps.
var expressionTexts = []string{
	"0", "5", "9223372036854775807", "null", "root", "in()", "size()", "img(0)", "img(2)", "img(3)", "img(-1)", "img(null)", "new P", "new Q", "new E", "arr(0)", "arr(3)", "arr(-1)", "arr(null)", "arr(5000)",
	"len(arr(3))", "len(arr(0))", "len(null)", "len(7)", "len(new P)", "new P.x", "new P.y", "new Q.z", "new Q.x", "null.x", "5.x", "arr(2).x", "arr(2)[0]", "arr(2)[1]", "arr(2)[2]", "arr(2)[-1]", "arr(2)[null]", "null[0]", "6[0]", "new P[0]",
	"-5", "!5", "!0", "~5", "-null", "!arr(1)", "~new E", "- -in()", "promote(5)", "promote(null)", "promote(new P).x", "put(1, 2)", "put(3, null)", "put(null, 3)", "put(put(1, 2), put(3, 4))", "1 / 0", "1 % 0",
	"put(1, 5) - put(2, 3) * put(3, 1)", "(put(1, 5) - put(2, 3)) * (put(3, 1) + put(4, 1))", "in() * 100 - in()", "in() - in() * 100", "put(1, arr(2))[put(2, 1)]", "new P == new P", "null == null", "null != 0", "in() == 20",
	"null + in()", "null + 1 / 0", "1 / 0 + null.x", "null.x + 1 / 0", "put(1, 0) & put(2, 1 / 0)", "null[1 / 0]", "5[in()]", "1 << 65", "-7 / 2", "-7 % 2", "1 + 2 * 3 - 4 / 5 ^ 6 & 7 | 8", "(1 < 2) + (2 <= 1)",
}

func TestEachExpression(t *testing.T) { // P11.3
	for _, e := range expressionTexts {
		wantBodies(t, "return "+e+";", "let v = "+e+"; return v;", "let v = 1; v = "+e+"; return v;", "root = "+e+"; return root;", "if "+e+" { out 1; } else { out 2; }", "while "+e+" { out 3; }", "out "+e+";",
			"stop "+e+";", "put("+e+", 5); out 6;", "put(5, "+e+");", "new P.x = "+e+"; return 7;", "arr(1)[0] = "+e+"; return 7;", "arr(1)["+e+"] = 4; return 7;", "let v = "+e+"; v.x = 5; return v;", "let v = "+e+"; v[0] = 5; return v;",
			"return promote("+e+");", "return -("+e+");", "return put(1, 2) + ("+e+") * in();", "return ("+e+") == put(1, null);", "return put(1, ("+e+")) != in();", "return ("+e+")[in() - 20];", "return arr(2)["+e+"];", "return len("+e+");")
	}
}

var binaries = []string{"+", "-", "*", "/", "%", "<<", ">>", "&", "|", "^", "<", "<=", "==", "!="}

func TestEachOperator(t *testing.T) { // P11.3
	edges := []int64{0, 1, -1, 2, -7, 63, 64, 1 << 32, math.MaxInt64, math.MinInt64}
	for _, sign := range binaries {
		l := nodes(t, "fn main() { return in() "+sign+" in(); }")
		c := made(t, l)
		for _, a := range edges {
			for _, b := range edges {
				wantSame(t, l, c, given{nil, []int64{a, b}, wide.lim})
			}
			wantSame(t, l, c, given{nil, []int64{a}, wide.lim})
		}
		for _, a := range []string{"null", "1", "arr(1)", "new P", "v", "in()"} {
			for _, b := range []string{"null", "1", "arr(1)", "new P", "v", "in()"} {
				wantBodies(t, "let v = 3; v = "+a+" "+sign+" "+b+"; return v;")
			}
			wantBodies(t, "let v = 3; let w = "+a+"; return w "+sign+" w;")
		}
	}
	for _, sign := range []string{"-", "!", "~"} {
		l := nodes(t, "fn main() { return "+sign+"in(); }")
		c := made(t, l)
		for _, a := range edges {
			wantSame(t, l, c, given{nil, []int64{a}, wide.lim})
		}
		wantSame(t, l, c, given{lim: wide.lim})
	}
}

func TestEachStatement(t *testing.T) { // P11.3
	wantBodies(t,
		"", "out 1;", "return 7; out 1;", "stop 5; out 1;", "let v = 5; let w = v + 1; let u = w + v; return u * v;", "let v = arr(1); let w = v; w[0] = 3; return v[0];", "let v = 5; let w = v; v = 6; return w;",
		"let p = new P; p.x = 4; p.y = 5; return p;", "let p = new P; p.x = p; p.x.x.y = 6; return p.y;", "let q = new Q; q.z = new P; q.z.y = q; return q.z;", "let p = new Q; p.x = 1;", "let p = new P; p.z = 1;",
		"let a = arr(3); a[0] = 4; a[2] = 5; return a;", "let a = arr(2); a[1] = a; a[1][1][0] = 6; return a;", "let a = arr(2); a[2] = 1;", "let a = arr(2); a[a] = 1;", "let a = null; a[null] = 1;", "let a = new P; a[0] = 1;",
		"root = 5; root = root * root; root = root * root; return null;", "root = new P; root.y = root; return root.y;", "root = arr(2); root[1] = 7; return root[1];", "root = 5; root = 1 / 0;",
		"if 1 { out 1; } else { out 2; } out 3;", "if 0 { out 1; } else { out 2; } out 3;", "if 0 { out 1; } out 3;", "if 1 { } out 3;", "if 1 { } else { out 1; } out 3;", "if 0 { } else { } out 3;", "if 1 << 32 { out 1; }",
		"if 1 { if 0 { out 1; } else { out 2; } out 3; } out 4;", "if 0 { return 4; } else { return 6; } return 5;", "if in() - 20 { out 1; } else { if in() - 20 { out 2; } else { out 3; } }",
		"let n = 2; while n { n = n - 1; }", "while in() - 21 { } return in();", "while in() { }", "let n = 1; while n { n = null; }", "let n = 2; while 6 / n { n = n - 1; }", "while 1 { while 1 { while 1 { return 8; } } }",
		"let n = 5; while n { if n == 3 { return n * 100; } n = n - 1; }", "let n = 2; while n { let m = n; while m { out n * 10 + m; m = m - 1; } n = n - 1; }", "let n = 3; while n { n = n - 1; if n { } else { stop n; } }",
		"while 1 { if in() == 21 { return 1; } else { } }", "while 1 { if in() == null { return 1; } }", "while 1 { if in() == null { stop 1; } else { out 1; } }", "while 1 { return 1; out 2; }",
		"put(1, 2); put(3, null); put(4, arr(1));", "put(null, 1); out 5;", "out put(1, put(2, 3)); out 4;", "let v = 4; stop v + put(7, 1);",
	)
}

func TestVariables(t *testing.T) { // P11.3
	wantBodies(t,
		// A value that is made of the variable itself: all of it is read ahead.
		"let v = 3; v = (v + 1) * v; return v;", "let v = 3; v = v - (v - (v - 1)); return v;", "let v = 3; v = put(v, v + 1) + v; return v;", "let v = arr(2); v[1] = 5; v = v[1] + len(v); return v;",
		"let v = 1; v = v; return v;", "let v = new P; v = v.x == v; return v;", "let v = 2; v = promote(v + 1) * v; return v;", "let v = 1; v = (v == v) + (v != v) + -v + !v + ~v; return v;",
		// Variables that others are made of stay as they are.
		"let a = 1; let b = a; b = b + 1; let c = b; a = 9; return a * 100 + b * 10 + c;", "let a = arr(1); let b = a; a = 5; b[0] = a; return b;",
		// Blocks' variables are laid down anew, whatever their registers held.
		"let n = 3; while n { let v = 0; v = v + n; out v; n = n - 1; }", "if 1 { let v = 1; out v; } else { let v = 2; out v; } if 0 { let v = 3; out v; } else { let v = 4; out v; } let v = 5; out v;",
		"let n = 1; while n { let v = n; n = 0; } let v = 7; return v;", "let n = 2; while n { let a = n; if a { let b = a * 10; out b; let c = b + a; out c; } let d = a + 1; out d; n = n - 1; } let e = 4; out e + n;",
		// A variable outlives the blocks within its own.
		"let v = 1; if v { let w = 2; let u = 3; v = w * u; } let w = v + 1; while w < 9 { let u = w; w = u + 1; } return v * 100 + w;",
		// A variable and a function, a record, a field of one name.
		"let put = 3; let P = 4; let x = 5; let p = new P; p.x = put(put, P); return p.x * 10 + x;",
	)
	for _, n := range []int{1, 2, 50, 100} {
		s := "fn main() { " + numbered("let v# = # * 3; ", 0, n) + numbered("out v#; v# = v# + v0; ", 0, n) + numbered("out v#; ", 0, n) + "}"
		wantSteps(t, s, wide)
	}
}

func TestOrder(t *testing.T) { // P11.3
	wantBodies(t,
		"put(1, new P).x = put(2, 5);", "put(1, arr(2))[put(2, 1)] = put(3, 5);", "put(1, null).x = put(2, 5);", "null.x = 1 / 0;", "(1 / 0).x = null.x;", "null.x = in();", "put(1, null)[put(2, null)] = put(3, 5);",
		"put(1, arr(1))[put(2, 1)] = put(3, 5);", "null[1 / 0] = null.x;", "null[null.x] = 1 / 0;", "arr(0)[5] = 1 / 0;", "arr(0)[in()] = in();", "root = arr(3); root[in() - 20] = in(); return 1;", "null.x.y = put(1, 2);",
		"(new P).x.y = put(1, 2);", "return (in() + in()) * (in() == null);", "return in() - put(in(), 5);", "return put(1, arr(2))[put(2, 0)] + put(3, 4);",
	)
	for _, s := range []string{
		// Which record is meant is settled ahead of the value; what the root, a field, an element was is what is calculated with.
		sorts + "fn main() { root = new P; let p = root; root.x = f(); return p; } fn f() { root = new Q; return 5; }",
		"fn main() { root = arr(1); let a = root; root[0] = f(); return a; } fn f() { root = arr(2); return 5; }",
		"fn main() { root = 1; return root + f() + root; } fn f() { root = 10; return 100; }",
		"fn main() { let v = 1; v = v + f(v); return v; } fn f(v) { v = v + 10; return v; }",
		sorts + "fn main() { let p = new P; p.x = 1; return p.x + f(p) + p.x; } fn f(p) { p.x = 10; return 100; }",
		"fn main() { let a = arr(1); return a[0] + f(a) + a[0]; } fn f(a) { a[0] = 10; return 100; }",
		"fn main() { return f(in(), f(in(), in(), in()), in()); } fn f(a, b, c) { out a; out b; out c; return a * 100 + b * 10 + c; }",
		"fn main() { return f(in(), 1 / 0, in(), null.x); } fn f(a, b, c, d) { out 1; } rec P {x}",
		"fn main() { return f(in(), null.x, 1 / 0); } fn f(a, b, c) { out 1; } rec P {x}",
		"fn main() { let v = 1; return f(v, g(), v, f(v, v, v, v)); } fn f(a, b, c, d) { out a; out b; out c; out d; a = 5; return b; } fn g() { let v = 7; return v; }",
	} {
		wantSteps(t, s, given{nil, []int64{1, 2, 3, 4, 5}, wide.lim})
	}
}

func TestCalls(t *testing.T) { // P11.3
	for _, s := range []string{
		"fn main() { return f(3); } fn f(n) { let m = n * 10; if n { f(n - 1); out f(n - 1); } out n; out m; n = n + 1; return n + m; }",
		"fn main() { return f(20); } fn f(n) { if n < 2 { return 1; } return n * f(n - 1); }",
		"fn main() { return a(5); } fn a(n) { let v = n; if n { v = b(n - 1); } return v + n; } fn b(n) { let v = n; if n { v = a(n - 1); } return v * n; }",
		"fn main() { return f(f(f(f(1)))) + f(f(2)); } fn f(v) { return v * 2; }",
		"fn main() { f(); f(); f(); g(); g(); return f() + g(); } fn f() { } fn g() { while 1 { if 1 { return 1; } } }",
		"fn main() { let a = arr(1); let n = 5; f(a, n); return a[0] * 10 + n; } fn f(b, n) { b[0] = n + 1; n = 9; b = null; }",
		"fn main() { out f(); out 9; } fn f() { g(1, 2); out 8; } fn g(a, b) { while 1 { if a { stop a + b; } } }",
		"fn main() { return main(); }", "fn main() { main(); }", "fn main() { return main() + main(); }", "fn main() { return f(in(), arr(1)); } fn f(a, b) { return f(b, a); }",
		// What a call's frame has in the registers beside its parameters is the number 0, whatever the last one had.
		"fn main() { f(); f(); return f(); } fn f() { if root { let v = 9; out v; } root = 1; }",
	} {
		for _, depth := range []int{math.MinInt, 0, 1, 2, 3, 5, 1000, math.MaxInt} {
			g := wide
			g.lim.Depth = depth
			wantSteps(t, s, g)
		}
	}
}

// TestDeepCalls has as many calls within one another as may be, each within as deep an expression as may be.
func TestDeepCalls(t *testing.T) { // P11.3
	for _, x := range []struct{ ahead, behind string }{{strings.Repeat("-", 190), ""}, {strings.Repeat("g(", 140), strings.Repeat(")", 140)}, {strings.Repeat("(1 + ", 140), strings.Repeat(")", 140)}} {
		l := nodes(t, "fn main() { return f(0); } fn f(n) { if n < 998 { return "+x.ahead+"f(n + 1)"+x.behind+"; } return 5; } fn g(v) { return v; }")
		c := made(t, l)
		for _, depth := range []int{10, 998, 999, 1000, 2000} {
			wantSame(t, l, c, given{lim: api.Limits{Fuel: 1000000, Depth: depth}})
		}
	}
}

func TestLimits(t *testing.T) { // P11.3
	s := sorts + "fn main() { let p = new P; root = arr(2); let e = new E; return f(e, p); } fn f(a, b) { root[0] = arr(in()); return g(a) == b; } fn g(a) { root[1] = a; return new Q; }"
	l := nodes(t, s)
	c := made(t, l)
	for _, fuel := range []int{math.MinInt, -1, 0, 1, 2, 3, 4, 5, 6, 7, 8, 9, math.MaxInt} {
		for _, depth := range []int{-5, 0, 1, 2, 3, 4} {
			for _, cells := range []int{math.MinInt, -1, 0, 2, 3, 5, 6, 7, 12, 13, 14, 15, 16, math.MaxInt} {
				for _, input := range [][]int64{nil, {5}, {-1}, {0, 1}} {
					wantSame(t, l, c, given{nil, input, api.Limits{Fuel: fuel, Depth: depth, Cells: cells}})
				}
			}
		}
	}
}

// TestImagesAndInputs has one code with many images and inputs.
func TestImagesAndInputs(t *testing.T) { // P11.3
	l := nodes(t, "fn main() { let n = 0; while n < size() { merge(n); let k = img(n); if k == 0 { let v = in(); root = v; if v == null { stop n; } } else { if k == 1 { out root; } else { if k == 2 { root = root * 2; } else { n = n - k; } } } n = n + 1; } return root; }")
	c := made(t, l)
	for n := range 256 {
		var image []int64
		for k := n; k > 0; k /= 4 {
			image = append(image, int64(k%4))
		}
		for _, input := range [][]int64{nil, {5}, {0, 6}, {math.MaxInt64, 1, -1, 4}} {
			wantSame(t, l, c, given{image, input, api.Limits{Fuel: 150, Depth: 1}})
		}
	}
}

// TestNoStall has code without a step for as long as it may be within one call, far from where interp would end it as idle.
func TestNoStall(t *testing.T) { // P11.3
	sum := "f()"
	for len(sum) < 60000 {
		sum = "(" + sum + " + " + sum + ")"
	}
	l := nodes(t, "fn main() { return "+sum+"; } fn f() { }")
	m := machineOf(made(t, l), given{lim: api.Limits{Fuel: 10, Depth: 10}})
	if r, _ := m.run(); r.End != api.EndHalt || r.Steps != 1 || m.stall > 5*len(l) {
		t.Error(fmt.Sprint(r, m.stall, len(l)))
	}
	wantSame(t, l, m.code, m.given)
}
