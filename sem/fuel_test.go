package sem

import (
	"fmt"
	"math"
	"slices"
	"testing"

	"swath/api"
)

// TestFuelAheadOfEachKind has statements that read the input when they are begun: without a step for them none is.
func TestFuelAheadOfEachKind(t *testing.T) { // P9.1, P9.3
	for _, x := range []struct {
		body      string
		completed string
	}{
		{"let v = in();", "halt 0 read 1 steps 1"},
		{"let v = 0; v = in();", "halt 0 read 1 steps 2"},
		{"let a = arr(30); a[in()] = in();", "halt 0 read 2 steps 2 cells 31"},
		{"let p = new P; p.x = in();", "halt 0 read 1 steps 2 cells 3"},
		{"root = in();", "halt 0 20 read 1 steps 1"},
		{"if in() { }", "halt 0 read 1 steps 1"},
		{"if in() { } else { }", "halt 0 read 1 steps 1"},
		{"while in() < 9 { }", "halt 0 read 1 steps 1"},
		{"return in();", "halt 20 read 1 steps 1"},
		{"out in();", "halt 0 out 20 read 1 steps 1"},
		{"stop in();", "halt 20 read 1 steps 1"},
		{"f(in());", "halt 0 read 1 steps 1"},
		{"if 1 { out in(); }", "halt 0 out 20 read 1 steps 2"},
		{"if 0 { } else { out in(); }", "halt 0 out 20 read 1 steps 2"},
		{"g();", "halt 0 out 20 read 1 steps 2"},
		{"out 1 - 1 + h(h(1)) * in();", "halt 0 out 20 read 1 steps 3"},
	} {
		s := sorts + "fn main() { " + x.body + " } fn f(v) { } fn g() { out in(); } fn h(v) { return v; }"
		completed, _ := done(t, s, nil, []int64{20, 21, 22}, wide)
		want(t, s, nil, []int64{20, 21, 22}, wide, x.completed)
		for fuel := -2; fuel < completed.Steps; fuel++ {
			r, _ := done(t, s, nil, []int64{20, 21, 22}, api.Limits{Fuel: fuel, Depth: 50, Cells: 1000})
			if r.End != api.EndFuel || r.Steps != max(fuel, 0) || r.Read > 0 || len(r.Out) > 0 {
				t.Error(x.body, fuel, r)
			}
		}
		for _, more := range []int{0, 1, 1000, math.MaxInt - 100} {
			want(t, s, nil, []int64{20, 21, 22}, api.Limits{Fuel: completed.Steps + more, Depth: 50, Cells: 1000}, x.completed)
		}
	}
}

// TestFuelOfAWhile has a step ahead of each asking of the condition, the last one too.
func TestFuelOfAWhile(t *testing.T) { // P9.1, P9.3
	s := "fn main() { while in() { out 5; } }"
	for fuel, result := range []string{
		"fuel 0", "fuel 0 read 1 steps 1", "fuel 0 out 5 read 1 steps 2", "fuel 0 out 5 read 2 steps 3", "fuel 0 out 5 5 read 2 steps 4", "halt 0 out 5 5 read 3 steps 5", "halt 0 out 5 5 read 3 steps 5",
	} {
		want(t, s, nil, []int64{1, -1, 0, 1}, api.Limits{Fuel: fuel}, result)
	}
	for fuel := range 50 {
		want(t, "fn main() { while 1 { } }", nil, nil, api.Limits{Fuel: fuel}, tellWith("fuel", "0", api.Result{Steps: fuel}))
	}
}

func TestNoFuel(t *testing.T) { // P9.1
	for _, fuel := range []int{0, -1, -2, math.MinInt} {
		lim := api.Limits{Fuel: fuel, Depth: 5, Cells: 5}
		for _, body := range []string{"let v = 1;", "root = 1;", "if 1 { }", "while 0 { }", "return 1;", "out 1;", "stop 1;", "main();", "return 1 / 0;", "while null { }"} {
			want(t, "fn main() { "+body+" }", nil, nil, lim, "fuel 0")
		}
		// What takes no step needs none.
		want(t, "fn main() { }", nil, nil, lim, "halt 0")
	}
}

// TestFuelAheadOfTraps has a trap behind some steps: with as many it is come to, with fewer not.
func TestFuelAheadOfTraps(t *testing.T) { // P9.1, P9.3
	s := "fn main() { out 1; let n = 2; while n { n = n - 1; out 6 / n; } }"
	for fuel := range 7 {
		r, _ := done(t, s, nil, nil, api.Limits{Fuel: fuel})
		if r.End != api.EndFuel || r.Steps != fuel {
			t.Error(fuel, r)
		}
	}
	want(t, s, nil, nil, api.Limits{Fuel: 7}, "fuel 0 out 1 6 steps 7")
	want(t, s, nil, nil, api.Limits{Fuel: 8}, "div 0 out 1 6 steps 8")
	want(t, s, nil, nil, api.Limits{Fuel: 9}, "div 0 out 1 6 steps 8")
	// The step is taken ahead of what traps.
	want(t, "fn main() { return main(); }", nil, nil, api.Limits{Fuel: 4, Depth: 4}, "depth 0 steps 4")
	want(t, "fn main() { return main(); }", nil, nil, api.Limits{Fuel: 3, Depth: 4}, "fuel 0 steps 3")
	want(t, "fn main() { return main(); }", nil, nil, api.Limits{Fuel: 3, Depth: 3}, "depth 0 steps 3")
}

// wantSteps wants of a tree, with ever more steps up to most, what P9.3 says; and that a run without enough takes all it has.
func wantSteps(t *testing.T, l []api.Node, image, input []int64, lim api.Limits, most int) {
	t.Helper()
	var before api.Result
	stays := ""
	for fuel := range most + 1 {
		lim.Fuel = fuel
		r, h, e := Run(l, image, input, lim)
		if e != api.OK {
			t.Fatal(e)
		}
		wantRight(t, r, h)
		if r.End == api.EndFuel && r.Steps != fuel || r.Steps > fuel {
			t.Fatal(fuel, r)
		}
		if len(before.Out) > len(r.Out) || !slices.Equal(before.Out, r.Out[:len(before.Out)]) || before.Read > r.Read || before.Cells > r.Cells {
			t.Fatal(fuel, before, r)
		}
		result := told(r, h)
		if stays != "" && result != stays {
			t.Fatal(fuel, stays, result)
		}
		if r.End != api.EndFuel {
			stays = result
		}
		before = r
	}
}

func TestMoreFuel(t *testing.T) { // P9.3
	for i, s := range []string{
		"fn main() { let n = 3; while n { out n; n = n - 1; } return null; }",
		"fn main() { root = arr(3); let n = 0; while n < 3 { merge(n); root[n] = in(); out n; n = n + 1; } stop root; }",
		"fn main() { return f(6); } fn f(n) { if n < 2 { out n; return n; } return f(n - 1) + f(n - 2); }",
		"fn main() { while in() { out in(); } return 1 / size(); }",
		"fn main() { root = root + 1; out root; main(); }",
		"fn main() { let a = null; while 1 { let b = arr(2); b[0] = a; a = b; root = b; } }",
	} {
		t.Run(fmt.Sprint(i), func(t *testing.T) {
			wantSteps(t, nodes(t, s), nil, []int64{1, 2, 3, 4}, api.Limits{Depth: 9, Cells: 20}, 120)
		})
	}
}
