package sem

import (
	"fmt"
	"math"
	"testing"

	"swath/api"
	"swath/arith"
)

func TestNumbersAndNull(t *testing.T) { // P9.1
	wantAll(t, []example{
		{"return 0;", "halt 0 steps 1"},
		{"return 00012;", "halt 12 steps 1"},
		{"return 0x1F;", "halt 31 steps 1"},
		{"return 'a';", "halt 97 steps 1"},
		{"return 9223372036854775807;", "halt 9223372036854775807 steps 1"},
		{"return -9223372036854775807 - 1;", "halt -9223372036854775808 steps 1"},
		{"return null;", "halt null steps 1"},
		{"return promote(null);", "halt null steps 1"},
		{"return promote(promote(3) + 1) * 2;", "halt 8 steps 1"},
		{"return promote(1 / 0);", "div 0 steps 1"},
		{"return promote(arr(1));", "halt @0[0] steps 1 cells 2"},
	})
}

func TestUnary(t *testing.T) { // P9.1
	wantAll(t, []example{
		{"return -5;", "halt -5 steps 1"},
		{"return - -5;", "halt 5 steps 1"},
		{"return !5;", "halt 0 steps 1"},
		{"return !0;", "halt 1 steps 1"},
		{"return !!7;", "halt 1 steps 1"},
		{"return ~5;", "halt -6 steps 1"},
		{"return -(1 << 63);", "halt -9223372036854775808 steps 1"},
	})
	for _, sign := range []string{"-", "!", "~"} {
		wantAll(t, []example{
			{"return " + sign + "null;", "type 0 steps 1"},
			{"return " + sign + "arr(0);", "type 0 steps 1 cells 1"},
			{"return " + sign + "new P;", "type 0 steps 1 cells 3"},
			{"return " + sign + "(1 / 0);", "div 0 steps 1"},
		})
	}
}

func TestBinary(t *testing.T) { // P9.1
	for _, x := range []struct {
		expression string
		n          int64
	}{
		{"7 + 3", 10}, {"7 - 3", 4}, {"7 * 3", 21}, {"7 / 3", 2}, {"7 % 3", 1}, {"7 << 3", 56}, {"7 >> 1", 3}, {"7 & 10", 2}, {"7 | 10", 15}, {"7 ^ 10", 13},
		{"7 < 3", 0}, {"3 < 7", 1}, {"3 < 3", 0}, {"7 <= 3", 0}, {"3 <= 7", 1}, {"3 <= 3", 1}, {"3 == 3", 1}, {"3 == 4", 0}, {"3 != 3", 0}, {"3 != 4", 1},
		{"-7 / 2", -3}, {"-7 % 2", -1}, {"7 / -2", -3}, {"7 % -2", 1}, {"1 << 65", 2}, {"-8 >> 1", -4}, {"-1 >> 70", -1}, {"1 << -1", math.MinInt64},
		{"9223372036854775807 + 1", math.MinInt64}, {"9223372036854775807 * 2", -2}, {"-9223372036854775807 - 2", math.MaxInt64},
		{"(1 << 63) / -1", math.MinInt64}, {"(1 << 63) % -1", 0}, {"2 + 3 * 4 - 5", 9}, {"10 - 4 - 3", 3}, {"100 / 5 / 2", 10},
	} {
		want(t, "fn main() { return "+x.expression+"; }", nil, nil, wide, fmt.Sprint("halt ", x.n, " steps 1"))
	}
}

// binaries are the signs of operations over two Ints, by their numbers.
var binaries = []string{1: "+", "-", "*", "/", "%", "<<", ">>", "&", "|", "^", "<", "<="}

func TestBinaryAsArithDoes(t *testing.T) { // P9.1
	edges := []int64{0, 1, -1, 2, -2, 3, 7, -7, 63, 64, 65, -64, 1 << 31, 1 << 32, -1 << 32, math.MaxInt64, math.MaxInt64 - 1, math.MinInt64, math.MinInt64 + 1}
	for op, sign := range binaries {
		if op == 0 {
			continue
		}
		l := nodes(t, "fn main() { return in() "+sign+" in(); }")
		for _, a := range edges {
			for _, b := range edges {
				r, _, e := Run(l, nil, []int64{a, b}, wide)
				n, trap := arith.Do(op, a, b)
				if e != api.OK || r.Value != num(n) || r.Trap != trap || (r.End == api.EndTrap) != (trap != 0) || r.Read != 2 || r.Steps != 1 {
					t.Fatal(a, sign, b, r)
				}
			}
		}
	}
	for op, sign := range []string{13: "-", "!", "~"} {
		if sign == "" {
			continue
		}
		l := nodes(t, "fn main() { return "+sign+"in(); }")
		for _, a := range edges {
			r, _, _ := Run(l, nil, []int64{a}, wide)
			if n, _ := arith.Do(op, a, 0); r.Value != num(n) || r.End != api.EndHalt {
				t.Fatal(sign, a, r)
			}
		}
	}
}

func TestBinaryOfOthersThanInts(t *testing.T) { // P9.1
	for op, sign := range binaries {
		if op == 0 {
			continue
		}
		for _, other := range []struct{ text, cells string }{{"null", ""}, {"arr(0)", " cells 1"}, {"new Q", " cells 2"}} {
			wantAll(t, []example{
				{"return 1 " + sign + " " + other.text + ";", "type 0 steps 1" + other.cells},
				{"return " + other.text + " " + sign + " 1;", "type 0 steps 1" + other.cells},
				// That a side is no Int is named ahead of what the operation would say.
				{"return " + other.text + " " + sign + " 0;", "type 0 steps 1" + other.cells},
				{"let v = " + other.text + "; return v " + sign + " v;", "type 0 steps 2" + other.cells},
			})
		}
	}
	wantAll(t, []example{
		{"return 1 / 0;", "div 0 steps 1"}, {"return 1 % 0;", "div 0 steps 1"}, {"return 0 / 0;", "div 0 steps 1"}, {"return (1 << 63) % 0;", "div 0 steps 1"},
		{"return 0 / null;", "type 0 steps 1"},
	})
}

func TestEqual(t *testing.T) { // P9.1
	// Variables, of which those with one letter and another digit are different values of one kind.
	lets := "let i1 = 0; let i2 = 1; let n1 = null; let p1 = new P; let p2 = new P; let q1 = new Q; let a1 = arr(2); let a2 = arr(2); let e1 = arr(0);"
	names := []string{"i1", "i2", "n1", "p1", "p2", "q1", "a1", "a2", "e1"}
	for i, a := range names {
		for j, b := range names {
			equal := int64(0)
			if i == j {
				equal = 1
			}
			s := sorts + "fn main() { " + lets + " let v = " + a + "; out v == " + b + "; out v != " + b + "; }"
			r, _ := done(t, s, nil, nil, wide)
			if r.End != api.EndHalt || len(r.Out) != 2 || r.Out[0] != equal || r.Out[1] != 1-equal {
				t.Error(a, b, r)
			}
		}
	}
	wantAll(t, []example{
		{"return null == null;", "halt 1 steps 1"}, {"return null != null;", "halt 0 steps 1"}, {"return null == 0;", "halt 0 steps 1"}, {"return 0 != null;", "halt 1 steps 1"},
		// The first thing's number is 0; numbers are no things.
		{"return new P == 0;", "halt 0 steps 1 cells 3"}, {"return 0 != new P;", "halt 1 steps 1 cells 3"}, {"return arr(0) == null;", "halt 0 steps 1 cells 1"},
		{"return new P == new P;", "halt 0 steps 1 cells 6"}, {"return arr(1) != arr(1);", "halt 1 steps 1 cells 4"},
		{"let p = new P; p.x = p; return (p.x == p) + (p.x.x != p) * 10 + (p.y == p.y) * 100;", "halt 101 steps 3 cells 3"},
		{"return (1 << 32) == 0;", "halt 0 steps 1"}, {"return (1 << 63) == (1 << 63);", "halt 1 steps 1"},
		{"return 1 / 0 == 1;", "div 0 steps 1"}, {"return null != 1 % 0;", "div 0 steps 1"},
	})
}

func TestFieldsAndElements(t *testing.T) { // P9.1
	wantAll(t, []example{
		{"return (new P).x;", "halt 0 steps 1 cells 3"},
		{"let p = new P; p.x = 3; p.y = 4; return p.x * 10 + p.y;", "halt 34 steps 4 cells 3"},
		{"let q = new Q; q.z = new P; q.z.y = 5; return q.z.y + q.z.x;", "halt 5 steps 4 cells 5"},
		{"return null.x;", "null 0 steps 1"},
		{"return 3 .x;", "type 0 steps 1"},
		{"return arr(3).x;", "type 0 steps 1 cells 4"},
		{"return (new Q).x;", "type 0 steps 1 cells 2"},
		{"return (new P).z;", "type 0 steps 1 cells 3"},
		{"return (1 / 0).z;", "div 0 steps 1"},
		{"return arr(2)[1];", "halt 0 steps 1 cells 3"},
		{"let a = arr(3); a[0] = 3; a[1] = 4; a[2] = 5; return a[0] * 100 + a[1] * 10 + a[2];", "halt 345 steps 5 cells 4"},
		{"return arr(2)[2];", "index 0 steps 1 cells 3"},
		{"return arr(2)[-1];", "index 0 steps 1 cells 3"},
		{"return arr(2)[1 << 32];", "index 0 steps 1 cells 3"},
		{"return arr(0)[0];", "index 0 steps 1 cells 1"},
		{"return arr(2)[null];", "type 0 steps 1 cells 3"},
		{"return arr(2)[arr(0)];", "type 0 steps 1 cells 4"},
		{"return null[0];", "null 0 steps 1"},
		{"return null[null];", "null 0 steps 1"},
		{"return 7[0];", "type 0 steps 1"},
		{"return (new P)[0];", "type 0 steps 1 cells 3"},
	})
}

func TestMaking(t *testing.T) { // P9.1
	wantAll(t, []example{
		{"return new P;", "halt @0{0 0 0} steps 1 cells 3"},
		{"return new Q;", "halt @0{1 0} steps 1 cells 2"},
		{"return new E;", "halt @0{2} steps 1 cells 1"},
		{"return arr(0);", "halt @0[] steps 1 cells 1"},
		{"return arr(3);", "halt @0[0 0 0] steps 1 cells 4"},
		{"return arr(-1);", "index 0 steps 1"},
		{"return arr(1 << 63);", "index 0 steps 1"},
		{"return arr(null);", "type 0 steps 1"},
		{"return arr(arr(1));", "type 0 steps 1 cells 2"},
		{"return arr(1000);", "cells 0 steps 1"},
		{"return arr(9223372036854775807);", "cells 0 steps 1"},
		{"return arr(1 / 0);", "div 0 steps 1"},
		{"return len(arr(5));", "halt 5 steps 1 cells 6"},
		{"return len(arr(0));", "halt 0 steps 1 cells 1"},
		{"return len(null);", "null 0 steps 1"},
		{"return len(3);", "type 0 steps 1"},
		{"return len(new P);", "type 0 steps 1 cells 3"},
		{"return len(1 % 0);", "div 0 steps 1"},
	})
}

func TestCells(t *testing.T) { // P9.1
	s := sorts + "fn main() { let p = new P; root = arr(2); let e = new E; return 5; }"
	for cells, result := range []string{
		"cells 0 steps 1", "cells 0 steps 1", "cells 0 steps 1", "cells 0 steps 2 cells 3", "cells 0 steps 2 cells 3", "cells 0 steps 2 cells 3",
		"cells 0 @0[0 0] steps 3 cells 6", "halt 5 @0[0 0] steps 4 cells 7", "halt 5 @0[0 0] steps 4 cells 7",
	} {
		want(t, s, nil, nil, api.Limits{Fuel: 9, Depth: 9, Cells: cells}, result)
	}
	for _, cells := range []int{0, -1, -7, math.MinInt} {
		lim := api.Limits{Fuel: 9, Depth: 9, Cells: cells}
		want(t, sorts+"fn main() { return new E; }", nil, nil, lim, "cells 0 steps 1")
		want(t, "fn main() { return arr(0); }", nil, nil, lim, "cells 0 steps 1")
		// Ahead of the cells comes whether there is such an array.
		want(t, "fn main() { return arr(-1); }", nil, nil, lim, "index 0 steps 1")
		want(t, "fn main() { return arr(null); }", nil, nil, lim, "type 0 steps 1")
		want(t, "fn main() { root = 4; return root; }", nil, nil, lim, "halt 4 4 steps 2")
	}
	want(t, "fn main() { return arr(10000000); }", nil, nil, api.Limits{Fuel: 9, Cells: math.MaxInt}, "cells 0 steps 1")
	want(t, "fn main() { return len(arr(100000)); }", nil, nil, api.Limits{Fuel: 9, Cells: math.MaxInt}, "halt 100000 steps 1 cells 100001")
	// Nothing that nobody reaches any more gives its cells back.
	want(t, sorts+"fn main() { while 1 { let p = new P; } }", nil, nil, api.Limits{Fuel: 99, Cells: 10}, "cells 0 steps 8 cells 9")
}

func TestInput(t *testing.T) { // P9.1
	s := "fn main() { let n = 4; while n { let v = in(); if v == null { out -1; } else { out v; } n = n - 1; } return in(); }"
	for _, x := range []struct {
		input  []int64
		result string
	}{
		{nil, "halt null out -1 -1 -1 -1 steps 23"},
		{[]int64{}, "halt null out -1 -1 -1 -1 steps 23"},
		{[]int64{5}, "halt null out 5 -1 -1 -1 read 1 steps 23"},
		{[]int64{5, 0, 7}, "halt null out 5 0 7 -1 read 3 steps 23"},
		{[]int64{5, 6, 7, math.MinInt64}, "halt null out 5 6 7 -9223372036854775808 read 4 steps 23"},
		{[]int64{5, 6, 7, 8, math.MaxInt64}, "halt 9223372036854775807 out 5 6 7 8 read 5 steps 23"},
		{[]int64{5, 6, 7, 8, 9, 10}, "halt 9 out 5 6 7 8 read 5 steps 23"},
	} {
		want(t, s, []int64{1, 2}, x.input, wide, x.result)
	}
}

func TestImage(t *testing.T) { // P9.1
	for _, x := range []struct {
		image  []int64
		at     string
		result string
	}{
		{nil, "0", "index 0 steps 1"}, {nil, "-1", "index 0 steps 1"}, {nil, "null", "type 0 steps 1"}, {[]int64{}, "size()", "index 0 steps 1"},
		{[]int64{5}, "0", "halt 5 steps 1"}, {[]int64{5}, "1", "index 0 steps 1"}, {[]int64{5}, "-1", "index 0 steps 1"}, {[]int64{5}, "size() - 1", "halt 5 steps 1"},
		{[]int64{5, 6, 7}, "0", "halt 5 steps 1"}, {[]int64{5, 6, 7}, "1", "halt 6 steps 1"}, {[]int64{5, 6, 7}, "2", "halt 7 steps 1"}, {[]int64{5, 6, 7}, "3", "index 0 steps 1"},
		{[]int64{5, 6, 7}, "size()", "index 0 steps 1"}, {[]int64{5, 6, 7}, "size() - 1", "halt 7 steps 1"}, {[]int64{5, 6, 7}, "-1", "index 0 steps 1"},
		{[]int64{5, 6, 7}, "1 << 32", "index 0 steps 1"}, {[]int64{5, 6, 7}, "1 << 63", "index 0 steps 1"}, {[]int64{5, 6, 7}, "9223372036854775807", "index 0 steps 1"},
		{[]int64{5, 6, 7}, "null", "type 0 steps 1"}, {[]int64{5, 6, 7}, "arr(0)", "type 0 steps 1 cells 1"}, {[]int64{5, 6, 7}, "1 / 0", "div 0 steps 1"},
		{[]int64{2, math.MinInt64, 1}, "img(img(0))", "halt -9223372036854775808 steps 1"}, {[]int64{2, 8, 1}, "in()", "type 0 steps 1"},
	} {
		want(t, "fn main() { return img("+x.at+"); }", x.image, nil, wide, x.result)
	}
	for n := range 5 {
		want(t, "fn main() { return size() == "+fmt.Sprint(n)+"; }", make([]int64, n), make([]int64, 3), wide, "halt 1 steps 1")
	}
	// The image stays, however often it is asked.
	want(t, "fn main() { out img(1); out img(1); out img(0); return in(); }", []int64{3, 4}, []int64{9}, wide, "halt 9 out 4 4 3 read 1 steps 4")
}
