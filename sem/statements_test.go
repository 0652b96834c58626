package sem

import (
	"testing"

	"swath/api"
)

func TestExampleOfTheChapter(t *testing.T) { // P9.1
	want(t, "fn main() { let n = 3; while n { out n; n = n - 1; } return null; }", nil, nil, wide, "halt null out 3 2 1 steps 12")
}

func TestLet(t *testing.T) { // P9.1
	wantAll(t, []example{
		{"let v = 5; return v;", "halt 5 steps 2"},
		{"let v = 5; let w = v + 1; let u = w + v; return u * v;", "halt 55 steps 4"},
		{"let v = null; return v;", "halt null steps 2"},
		{"let v = arr(1); let w = v; w[0] = 3; return v[0];", "halt 3 steps 4 cells 2"},
		{"let v = 1 / 0; out 1;", "div 0 steps 1"},
		{"let v = in(); let w = in(); return w - v;", "halt 1 read 2 steps 3"},
	})
}

func TestSetOfAName(t *testing.T) { // P9.1
	wantAll(t, []example{
		{"let v = 5; v = v + v; v = v + v; return v;", "halt 20 steps 4"},
		{"let v = 5; v = null; return v;", "halt null steps 3"},
		{"let v = 5; let w = v; v = 6; return w;", "halt 5 steps 4"},
		{"let v = 5; v = v % 0; return v;", "div 0 steps 2"},
		{"let v = 1; if v { v = 2; let w = v; if w { v = w + 1; } } return v;", "halt 3 steps 7"},
	})
}

func TestSetOfAField(t *testing.T) { // P9.1
	wantAll(t, []example{
		{"let p = new P; p.x = 4; p.y = 5; return p;", "halt @0{0 4 5} steps 4 cells 3"},
		{"let p = new P; p.y = 5; p.y = null; return p;", "halt @0{0 0 null} steps 4 cells 3"},
		{"let p = new P; p.x = p; p.x.x.y = 6; return p.y;", "halt 6 steps 4 cells 3"},
		{"let q = new Q; q.z = new P; q.z.y = q; return q.z;", "halt @0{0 0 @1{1 @0}} steps 4 cells 5"},
		{"let p = null; p.x = 1;", "null 0 steps 2"},
		{"let p = 0; p.x = 1;", "type 0 steps 2"},
		{"let p = arr(2); p.x = 1;", "type 0 steps 2 cells 3"},
		{"let p = new Q; p.x = 1;", "type 0 steps 2 cells 2"},
		{"let p = new E; p.z = 1;", "type 0 steps 2 cells 1"},
		{"let p = new P; p.z = 1;", "type 0 steps 2 cells 3"},
	})
}

func TestSetOfAnElement(t *testing.T) { // P9.1
	wantAll(t, []example{
		{"let a = arr(3); a[0] = 4; a[2] = 5; return a;", "halt @0[4 0 5] steps 4 cells 4"},
		{"let a = arr(2); a[1] = a; a[1][1][0] = 6; return a;", "halt @0[6 @0] steps 4 cells 3"},
		{"let a = arr(2); a[2] = 1;", "index 0 steps 2 cells 3"},
		{"let a = arr(2); a[-1] = 1;", "index 0 steps 2 cells 3"},
		{"let a = arr(0); a[0] = 1;", "index 0 steps 2 cells 1"},
		{"let a = arr(2); a[null] = 1;", "type 0 steps 2 cells 3"},
		{"let a = arr(2); a[a] = 1;", "type 0 steps 2 cells 3"},
		{"let a = null; a[0] = 1;", "null 0 steps 2"},
		{"let a = null; a[null] = 1;", "null 0 steps 2"},
		{"let a = 5; a[0] = 1;", "type 0 steps 2"},
		{"let a = new P; a[0] = 1;", "type 0 steps 2 cells 3"},
	})
}

func TestRoot(t *testing.T) { // P9.1
	wantAll(t, []example{
		{"return root;", "halt 0 steps 1"},
		{"root = 5; return root + 1;", "halt 6 5 steps 2"},
		{"root = null; return 1;", "halt 1 null steps 2"},
		{"root = 5; root = root * root; root = root * root; return null;", "halt null 625 steps 4"},
		{"root = new P; root.y = root; return root.y;", "halt @0{0 0 @0} @0 steps 3 cells 3"},
		{"root = arr(2); root[1] = 7; return root[1];", "halt 7 @0[0 7] steps 3 cells 3"},
		{"root = 5; root = 1 / 0;", "div 0 5 steps 2"},
		{"root = 5; root.x = 1;", "type 0 5 steps 2"},
		{"root = null; root[0] = 1;", "null 0 null steps 2"},
	})
	s := "fn main() { root = 1; f(); root = root * 10; g(); return root; } fn f() { root = root + 1; } fn g() { out root; root = arr(root / 10); }"
	want(t, s, nil, nil, wide, "halt @0[0 0] @0 out 20 steps 8 cells 3")
	// What the root was when the run ended stays in the heap, whatever the end.
	want(t, "fn main() { root = 8; stop 9; }", nil, nil, wide, "halt 9 8 steps 2")
	want(t, "fn main() { root = 8; out null; }", nil, nil, wide, "type 0 8 steps 2")
	want(t, "fn main() { root = 8; while 1 { } }", nil, nil, api.Limits{Fuel: 9}, "fuel 0 8 steps 9")
	want(t, "fn main() { root = root + 1; return main(); }", nil, nil, api.Limits{Fuel: 99, Depth: 7}, "depth 0 7 steps 14")
}

func TestIf(t *testing.T) { // P9.1
	wantAll(t, []example{
		{"if 1 { out 1; } else { out 2; } out 3;", "halt 0 out 1 3 steps 3"},
		{"if 0 { out 1; } else { out 2; } out 3;", "halt 0 out 2 3 steps 3"},
		{"if 0 { out 1; } out 3;", "halt 0 out 3 steps 2"},
		{"if 1 { } out 3;", "halt 0 out 3 steps 2"},
		{"if -1 { out 1; }", "halt 0 out 1 steps 2"},
		{"if 256 { out 1; }", "halt 0 out 1 steps 2"},
		{"if 1 << 63 { out 1; }", "halt 0 out 1 steps 2"},
		{"if 1 << 32 { out 1; }", "halt 0 out 1 steps 2"},
		{"if null { out 1; } else { out 2; }", "type 0 steps 1"},
		{"if arr(0) { out 1; } else { out 2; }", "type 0 steps 1 cells 1"},
		{"if new E { out 1; } else { out 2; }", "type 0 steps 1 cells 1"},
		{"if 1 / 0 { out 1; } else { out 2; }", "div 0 steps 1"},
		{"if in() - 20 { out 1; } else { if in() - 20 { out 2; } else { out 3; } }", "halt 0 out 2 read 2 steps 3"},
		{"if 1 { if 0 { out 1; } else { out 2; } out 3; } out 4;", "halt 0 out 2 3 4 steps 5"},
		{"if 1 { return 4; } return 5;", "halt 4 steps 2"},
		{"if 0 { return 4; } else { return 6; } return 5;", "halt 6 steps 2"},
		{"if 0 { return 4; } else { } return 5;", "halt 5 steps 2"},
	})
}

func TestWhile(t *testing.T) { // P9.1
	wantAll(t, []example{
		{"while 0 { out 1; }", "halt 0 steps 1"},
		{"let n = 2; while n { n = n - 1; }", "halt 0 steps 6"},
		{"let n = -2; while n { out n; n = n + 1; } return n;", "halt 0 out -2 -1 steps 9"},
		{"while in() - 21 { } return in();", "halt null read 2 steps 3"},
		{"while in() { }", "type 0 read 2 steps 3"},
		{"while null { out 1; }", "type 0 steps 1"},
		{"while arr(1) { out 1; }", "type 0 steps 1 cells 2"},
		{"while new Q { out 1; }", "type 0 steps 1 cells 2"},
		{"let n = 1; while n { n = null; }", "type 0 steps 4"},
		{"let n = 2; while 6 / n { n = n - 1; }", "div 0 steps 6"},
		{"let n = 5; while n { if n == 3 { return n * 100; } n = n - 1; }", "halt 300 steps 10"},
		{"let n = 2; while n { let m = n; while m { out n * 10 + m; m = m - 1; } n = n - 1; }", "halt 0 out 22 21 11 steps 19"},
		{"while 1 { while 1 { while 1 { return 8; } } }", "halt 8 steps 4"},
		{"let n = 3; while n { n = n - 1; if n { } else { stop n; } }", "halt 0 steps 11"},
	})
}

func TestReturn(t *testing.T) { // P9.1
	wantAll(t, []example{
		{"", "halt 0"},
		{"return 7; out 1;", "halt 7 steps 1"},
		{"return null;", "halt null steps 1"},
		{"return new P;", "halt @0{0 0 0} steps 1 cells 3"},
		{"return arr(2);", "halt @0[0 0] steps 1 cells 3"},
		{"return 1 % 0;", "div 0 steps 1"},
		{"out 1; out 2;", "halt 0 out 1 2 steps 2"},
	})
	for _, x := range []example{
		{"return 7; out 1;", "halt 7 out 99 steps 4"},
		{"", "halt 0 out 99 steps 3"},
		{"out 1;", "halt 0 out 1 99 steps 4"},
		{"let v = 4; v = 5;", "halt 0 out 99 steps 5"},
		{"return null;", "halt null out 99 steps 4"},
		{"if 1 { return 4; } return 5;", "halt 4 out 99 steps 5"},
		{"if 1 { } else { return 4; }", "halt 0 out 99 steps 4"},
		{"while 1 { if 1 { while 1 { return 6; } } out 2; }", "halt 6 out 99 steps 7"},
		{"let n = 1; while n { n = 0; }", "halt 0 out 99 steps 7"},
	} {
		want(t, "fn main() { let v = f(); out 99; return v; } fn f() { "+x.body+" }", nil, nil, wide, x.result)
	}
}

func TestOut(t *testing.T) { // P9.1
	wantAll(t, []example{
		{"out 1; out 1; out -3; out 0;", "halt 0 out 1 1 -3 0 steps 4"},
		{"out 9223372036854775807; out 1 << 63;", "halt 0 out 9223372036854775807 -9223372036854775808 steps 2"},
		{"out in(); out in(); out in();", "type 0 out 20 21 read 2 steps 3"},
		{"out 1; out null; out 2;", "type 0 out 1 steps 2"},
		{"out arr(0);", "type 0 steps 1 cells 1"},
		{"out new E;", "type 0 steps 1 cells 1"},
		{"out 3; out 1 / 0;", "div 0 out 3 steps 2"},
		// What its own expression puts out stands ahead.
		{"out put(1, put(2, 3)); out 4;", "halt 0 out 2 1 3 4 steps 6"},
		{"out put(1, null);", "type 0 out 1 steps 3"},
	})
}

func TestStop(t *testing.T) { // P9.1
	wantAll(t, []example{
		{"stop 5; out 1;", "halt 5 steps 1"},
		{"stop null;", "halt null steps 1"},
		{"stop new Q;", "halt @0{1 0} steps 1 cells 2"},
		{"stop 1 / 0;", "div 0 steps 1"},
		{"while 1 { if 1 { stop 3; } }", "halt 3 steps 3"},
		{"let v = 4; stop v + put(7, 1);", "halt 5 out 7 steps 4"},
	})
	// Within calls, wherever these stand: nothing more is done.
	for _, body := range []string{
		"f();", "let v = f();", "let v = 1; v = f();", "let p = new E; root = f();", "return f();", "out f();", "stop f();", "if f() { out 1; } else { out 2; }",
		"while f() { out 1; }", "return put(f(), in());", "return f() + in();", "return f() + null;", "return -f();", "return promote(f());", "f().x = in();",
		"null.x = f();", "null[f()] = in();", "return null[f()];", "return arr(f());", "return len(f());", "return img(f());", "return f()[in()];", "return f().z;", "out g(f(), in());",
	} {
		s := sorts + "fn main() { " + body + " out 9; } fn f() { g(1, 2); out 8; } fn g(a, b) { while 1 { if a { stop a + b; } } }" + put
		r, h := done(t, s, nil, []int64{5}, wide)
		if r.End != api.EndHalt || r.Value != num(3) || len(r.Out) > 0 || r.Read > 0 || r.Cells > 1 || h.Root() != num(0) {
			t.Error(body, r)
		}
	}
}

func TestCallStatement(t *testing.T) { // P9.1
	wantAll(t, []example{
		{"put(1, 2); put(3, null); put(4, arr(1));", "halt 0 out 1 3 4 steps 9 cells 2"},
		{"put(null, 1); out 5;", "type 0 steps 2"},
		{"put(1 / 0, 1);", "div 0 steps 1"},
		{"put(1, 1 / 0);", "div 0 steps 1"},
	})
	want(t, "fn main() { f(); f(); f(); } fn f() { }", nil, nil, wide, "halt 0 steps 3")
}

func TestMergeTakesNoStep(t *testing.T) { // P9.1, P9.4
	want(t, "fn main() { let n = 3; while n { merge(n); n = n - 1; } return n; }", nil, nil, wide, "halt 0 steps 9")
	want(t, "fn main() { let n = 3; while n { merge(); n = n - 1; } return n; }", nil, nil, wide, "halt 0 steps 9")
	want(t, "fn main() { let n = 3; while n { n = n - 1; } return n; }", nil, nil, wide, "halt 0 steps 9")
	want(t, "fn main() { let n = null; let a = arr(2); while a[1] == 0 { merge(n, a); a[1] = n; } return a; }", nil, nil, wide, "halt @0[0 null] steps 6 cells 3")
	want(t, "fn main() { while 1 { merge(); } }", nil, nil, api.Limits{Fuel: 5}, "fuel 0 steps 5")
}
