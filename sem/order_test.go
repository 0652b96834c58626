package sem

import (
	"testing"

	"swath/api"
)

// In these descriptions put(n, v) tells by n when it is done; what traps within it is told by the trap.
func TestOrderOfExpressions(t *testing.T) { // P9.1
	wantAll(t, []example{
		{"return put(1, 5) - put(2, 3) * put(3, 1);", "halt 2 out 1 2 3 steps 7"},
		{"return (put(1, 5) - put(2, 3)) * (put(3, 1) + put(4, 1));", "halt 4 out 1 2 3 4 steps 9"},
		{"return put(1, 5) == put(2, 5);", "halt 1 out 1 2 steps 5"},
		{"return put(1, null) != put(2, 5);", "halt 1 out 1 2 steps 5"},
		{"return put(1, arr(2))[put(2, 1)];", "halt 0 out 1 2 steps 5 cells 3"},
		{"return put(put(1, 2), put(3, 4));", "halt 4 out 1 3 2 steps 7"},
		{"return in() * 100 - in();", "halt 1979 read 2 steps 1"},
		{"return in() - in() * 100;", "halt -2080 read 2 steps 1"},
		// Both sides are done ahead of whether they are Ints.
		{"return put(1, null) + put(2, 3);", "type 0 out 1 2 steps 5"},
		{"return null + in();", "type 0 read 1 steps 1"},
		{"return null + 1 / 0;", "div 0 steps 1"},
		{"return 1 / 0 + null.x;", "div 0 steps 1"},
		{"return null.x + 1 / 0;", "null 0 steps 1"},
		{"return put(1, 0) & put(2, 1 / 0);", "div 0 out 1 steps 3"},
		// No side is left out, whatever the other one is.
		{"return put(1, 0) * put(2, 3);", "halt 0 out 1 2 steps 5"},
		{"return put(1, 0) & put(2, 3);", "halt 0 out 1 2 steps 5"},
		{"return put(1, 1) | put(2, 3);", "halt 3 out 1 2 steps 5"},
		// The array, the index, then whether there is such a cell.
		{"return put(1, null)[put(2, null)];", "null 0 out 1 2 steps 5"},
		{"return null[1 / 0];", "div 0 steps 1"},
		{"return (1 / 0)[null.x];", "div 0 steps 1"},
		{"return 5[in()];", "type 0 read 1 steps 1"},
		{"return new P == arr(1);", "halt 0 steps 1 cells 5"},
	})
}

func TestOrderOfArguments(t *testing.T) { // P9.1
	s := "fn main() { return f(in(), f(in(), in(), in()), in()); } fn f(a, b, c) { out a; out b; out c; return a * 100 + b * 10 + c; }"
	want(t, s, nil, []int64{1, 2, 3, 4, 5}, wide, "halt 2445 out 2 3 4 1 234 5 read 5 steps 9")
	s = "fn main() { return f(in(), 1 / 0, in(), null.x); } fn f(a, b, c, d) { out 1; } rec P {x}"
	want(t, s, nil, []int64{1, 2, 3}, wide, "div 0 read 1 steps 1")
	s = "fn main() { return f(in(), null.x, 1 / 0); } fn f(a, b, c) { out 1; } rec P {x}"
	want(t, s, nil, []int64{1, 2, 3}, wide, "null 0 read 1 steps 1")
}

func TestOrderOfSets(t *testing.T) { // P9.1
	wantAll(t, []example{
		{"put(1, new P).x = put(2, 5);", "halt 0 out 1 2 steps 5 cells 3"},
		{"put(1, arr(2))[put(2, 1)] = put(3, 5);", "halt 0 out 1 2 3 steps 7 cells 3"},
		// The place is made ahead of the value, but whether there is one is asked behind it.
		{"put(1, null).x = put(2, 5);", "null 0 out 1 2 steps 5"},
		{"put(1, 4).x = put(2, 5);", "type 0 out 1 2 steps 5"},
		{"null.x = 1 / 0;", "div 0 steps 1"},
		{"(1 / 0).x = null.x;", "div 0 steps 1"},
		{"null.x = in();", "null 0 read 1 steps 1"},
		{"put(1, null)[put(2, null)] = put(3, 5);", "null 0 out 1 2 3 steps 7"},
		{"put(1, 6)[put(2, null)] = put(3, 5);", "type 0 out 1 2 3 steps 7"},
		{"put(1, arr(1))[put(2, 1)] = put(3, 5);", "index 0 out 1 2 3 steps 7 cells 2"},
		{"null[1 / 0] = null.x;", "div 0 steps 1"},
		{"null[null.x] = 1 / 0;", "null 0 steps 1"},
		{"arr(0)[5] = 1 / 0;", "div 0 steps 1 cells 1"},
		{"arr(0)[in()] = in();", "index 0 read 2 steps 1 cells 1"},
		{"root = arr(3); root[in() - 20] = in(); return 1;", "halt 1 @0[21 0 0] read 2 steps 3 cells 4"},
		// A place within a place is read at once.
		{"null.x.y = put(1, 2);", "null 0 steps 1"},
		{"null[0].x = put(1, 2);", "null 0 steps 1"},
		{"null.x[1 / 0] = put(1, 2);", "null 0 steps 1"},
		{"(new P).x.y = put(1, 2);", "type 0 out 1 steps 3 cells 3"},
	})
	// Which record is meant is settled ahead of the value; so is what a name stood for.
	s := sorts + "fn main() { root = new P; let p = root; root.x = f(); return p; } fn f() { root = new Q; return 5; }"
	want(t, s, nil, nil, wide, "halt @0{0 5 0} @1{1 0} steps 6 cells 5")
	s = "fn main() { root = arr(1); let a = root; root[0] = f(); return a; } fn f() { root = arr(2); return 5; }"
	want(t, s, nil, nil, wide, "halt @0[5] @1[0 0] steps 6 cells 5")
	s = "fn main() { root = 1; return root + f() + root; } fn f() { root = 10; return 100; }"
	want(t, s, nil, nil, wide, "halt 111 10 steps 4")
	s = "fn main() { let v = 1; v = v + f(v); return v; } fn f(v) { v = v + 10; return v; }"
	want(t, s, nil, nil, wide, "halt 12 steps 5")
	s = sorts + "fn main() { let p = new P; p.x = 1; return p.x + f(p) + p.x; } fn f(p) { p.x = 10; return 100; }"
	want(t, s, nil, nil, wide, "halt 111 steps 5 cells 3")
}

func TestNothingIsDoneTwice(t *testing.T) { // P9.1
	for _, x := range []struct {
		body string
		read int
	}{
		{"let v = in();", 1}, {"let v = 0; v = in();", 1}, {"root = in();", 1}, {"if in() { }", 1}, {"if in() { } else { }", 1}, {"while !in() { }", 1}, {"while in() < 23 { }", 3}, {"return in();", 1},
		{"out in();", 1}, {"stop in();", 1}, {"f(in());", 1}, {"return -in();", 1}, {"return in() + in();", 2}, {"return in() == in();", 2}, {"return arr(in());", 1},
		{"return promote(in());", 1}, {"let a = arr(30); a[in()] = in();", 2}, {"let a = arr(30); return a[in()];", 1}, {"g(in()).x = in();", 2}, {"return g(in()).x;", 1}, {"return f(f(f(in())));", 1},
	} {
		s := sorts + "fn main() { " + x.body + " } fn f(v) { return v; } fn g(v) { return new P; }"
		r, _ := done(t, s, nil, []int64{21, 22, 23, 24, 25}, wide)
		if r.End != api.EndHalt || r.Read != x.read {
			t.Error(x.body, r)
		}
	}
}
