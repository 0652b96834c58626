package sem

import (
	"math"
	"strings"
	"testing"

	"swath/api"
)

func TestArguments(t *testing.T) { // P9.1
	want(t, "fn main() { return f(1, null, arr(2), 4); } fn f(a, b, c, d) { out a; out b == null; out len(c); return d; }", nil, nil, wide, "halt 4 out 1 1 2 steps 5 cells 3")
	// Functions may stand behind and ahead of one another, main anywhere.
	want(t, "fn g(a) { return f(a) + 1; } fn main() { return g(1); } fn f(a) { return a * 10; }", nil, nil, wide, "halt 11 steps 3")
	// What is done to a parameter is not done to the caller's variable; what is done to a thing is seen.
	want(t, "fn main() { let a = arr(1); let n = 5; f(a, n); return a[0] * 10 + n; } fn f(b, n) { b[0] = n + 1; n = 9; b = null; }", nil, nil, wide, "halt 65 steps 7 cells 2")
}

func TestVariablesOfACallThatCallsItself(t *testing.T) { // P9.1
	s := "fn main() { return f(3); } fn f(n) { let m = n * 10; if n { f(n - 1); out f(n - 1); } out n; out m; n = n + 1; return n + m; }"
	r, _ := done(t, s, nil, nil, wide)
	// Told by the same function in Go.
	var out []int64
	var f func(n int64) int64
	f = func(n int64) int64 {
		m := n * 10
		if n != 0 {
			f(n - 1)
			v := f(n - 1)
			out = append(out, v)
		}
		out = append(out, n, m)
		return n + 1 + m
	}
	if v := f(3); r.Value != num(v) || !sameResults(r, api.Result{Value: num(v), Out: out, Steps: r.Steps}) {
		t.Error(r, v, out)
	}
	want(t, "fn main() { return f(20); } fn f(n) { if n < 2 { return 1; } return n * f(n - 1); }", nil, nil, wide, "halt 2432902008176640000 steps 41")
	want(t, "fn main() { return a(5); } fn a(n) { let v = n; if n { v = b(n - 1); } return v + n; } fn b(n) { let v = n; if n { v = a(n - 1); } return v * n; }", nil, nil, wide, "halt 25 steps 24")
}

func TestVariablesOfBlocks(t *testing.T) { // P9.1
	wantAll(t, []example{
		// A let that is come to again lays its value down anew.
		{"let n = 3; while n { let v = 0; v = v + n; out v; n = n - 1; }", "halt 0 out 3 2 1 steps 17"},
		{"let n = 3; let s = 0; while n { let v = n * n; s = s + v; n = n - 1; } return s;", "halt 14 steps 16"},
		{"let n = 2; while n { let v = arr(1); out v[0]; v[0] = 5; n = n - 1; }", "halt 0 out 0 0 steps 12 cells 4"},
		// One name in several blocks.
		{"if 1 { let v = 1; out v; } else { let v = 2; out v; } if 0 { let v = 3; out v; } else { let v = 4; out v; } let v = 5; out v;", "halt 0 out 1 4 5 steps 8"},
		{"let n = 1; while n { let v = n; n = 0; } let v = 7; return v;", "halt 7 steps 7"},
		// A variable and a function, a record, a field of one name.
		{"let put = 3; let P = 4; let x = 5; let p = new P; p.x = put(put, P); return p.x * 10 + x;", "halt 45 out 3 steps 8 cells 3"},
	})
	want(t, "fn main() { let v = 1; f(); g(3); return v; } fn f() { let v = 2; out v; } fn g(v) { out v; v = 4; }", nil, nil, wide, "halt 1 out 2 3 steps 8")
}

func TestDepth(t *testing.T) { // P9.1
	// f(n) has n + 1 calls of f within one another, beside main.
	s := "fn main() { return f(in()); } fn f(n) { if n { return f(n - 1) + 1; } return 0; }"
	l := nodes(t, s)
	for _, x := range []struct{ depth, counts int }{{-5, 1}, {math.MinInt, 1}, {0, 1}, {1, 1}, {2, 2}, {3, 3}, {10, 10}, {999, 999}, {1000, 1000}, {1001, 1000}, {5000, 1000}, {math.MaxInt, 1000}} {
		for _, calls := range []int{2, 3, 9, 10, 11, 999, 1000, 1001} {
			lim := api.Limits{Fuel: 10000, Depth: x.depth}
			r, h, e := Run(l, nil, []int64{int64(calls - 2)}, lim)
			wantRight(t, r, h)
			if e != api.OK || r.Read != 1 {
				t.Fatal(x, calls, r, e)
			}
			if calls <= x.counts && (r.End != api.EndHalt || r.Value != num(int64(calls-2)) || r.Steps != 2*calls-1) {
				t.Fatal(x, calls, r)
			}
			// The first call too many is asked for within main's return, then within two steps a call.
			if calls > x.counts && (r.End != api.EndTrap || r.Trap != api.TrapDepth || r.Steps != 2*x.counts-1) {
				t.Fatal(x, calls, r)
			}
		}
	}
	want(t, "fn main() { return main(); }", nil, nil, api.Limits{Fuel: 10000, Depth: 10000}, "depth 0 steps 1000")
	want(t, "fn main() { main(); }", nil, nil, api.Limits{Fuel: 10000, Depth: 3}, "depth 0 steps 3")
}

func TestDepthBehindTheArguments(t *testing.T) { // P9.1
	one := api.Limits{Fuel: 100, Depth: 1, Cells: 10}
	rest := " } fn f(a, b) { out 1; return a; } fn g() { } rec P {x}"
	want(t, "fn main() { return f(in(), arr(1));"+rest, nil, []int64{4}, one, "depth 0 read 1 steps 1 cells 2")
	want(t, "fn main() { return f(in(), 1 / 0);"+rest, nil, []int64{4}, one, "div 0 read 1 steps 1")
	want(t, "fn main() { f(null.x, in());"+rest, nil, []int64{4}, one, "null 0 steps 1")
	want(t, "fn main() { g();"+rest, nil, nil, one, "depth 0 steps 1")
	want(t, "fn main() { return g() + 1 / 0;"+rest, nil, nil, one, "depth 0 steps 1")
	want(t, "fn main() { return 1 / 0 + g();"+rest, nil, nil, one, "div 0 steps 1")
	want(t, "fn main() { return 7;"+rest, nil, nil, one, "halt 7 steps 1")
}

func TestCallsThatAreOverStandNoMore(t *testing.T) { // P9.1
	two := api.Limits{Fuel: 1000, Depth: 2, Cells: 10}
	want(t, "fn main() { let n = 50; while n { f(n); n = n - f(1); } return n; } fn f(v) { return v; }", nil, nil, two, "halt 0 steps 253")
	want(t, "fn main() { return f(f(f(f(1)))) + f(f(2)); } fn f(v) { return v * 2; }", nil, nil, two, "halt 24 steps 7")
	want(t, "fn main() { f(); f(); f(); g(); g(); return 5; } fn f() { } fn g() { while 1 { if 1 { return 1; } } }", nil, nil, two, "halt 5 steps 12")
	want(t, "fn main() { return f(); } fn f() { return g(); } fn g() { return 1; }", nil, nil, two, "depth 0 steps 2")
}

// TestDeepExpressions has as many calls within one another as may be, each within as deep an expression as may be.
func TestDeepExpressions(t *testing.T) { // P1, P9.1
	lim := api.Limits{Fuel: 10000, Depth: api.MaxDepth}
	for _, x := range []struct{ ahead, behind string }{{strings.Repeat("-", 190), ""}, {strings.Repeat("g(", 140), strings.Repeat(")", 140)}, {strings.Repeat("(1 + ", 140), strings.Repeat(")", 140)}} {
		s := "fn main() { return f(0); } fn f(n) { if n < 998 { return " + x.ahead + "f(n + 1)" + x.behind + "; } return 5; } fn g(v) { return v; }"
		r, _ := done(t, s, nil, nil, api.Limits{Fuel: 1000000, Depth: api.MaxDepth})
		if strings.HasPrefix(x.ahead, "g") {
			// The last call of f leaves no room for one of g, but it calls none.
			if r.End != api.EndHalt || r.Value != num(5) {
				t.Error(r)
			}
			continue
		}
		if r.End != api.EndHalt || r.Steps != 1999 {
			t.Error(r)
		}
	}
	s := "fn main() { " + strings.Repeat("if 1 { while 1 { ", 45) + "return main();" + strings.Repeat(" } }", 45) + " }"
	r, _ := done(t, s, nil, nil, api.Limits{Fuel: 1000000, Depth: api.MaxDepth})
	if r.Trap != api.TrapDepth || r.Steps != 91*api.MaxDepth {
		t.Error(r)
	}
	want(t, "fn main() { return main() + main(); }", nil, nil, lim, "depth 0 steps 1000")
}
