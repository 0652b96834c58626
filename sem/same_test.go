package sem

import (
	"testing"

	"swath/api"
	"swath/heap"
)

// wantSame wants of two results, both ways round, whether they are the same.
func wantSame(t *testing.T, a api.Result, h *heap.Heap, b api.Result, g *heap.Heap, same bool) {
	t.Helper()
	if Same(a, h, b, g) != same || Same(b, g, a, h) != same {
		t.Errorf("%v and %v: wanted %v", a, b, same)
	}
	if !Same(a, h, a, h) || !Same(b, g, b, g) {
		t.Error("not the same as itself:", a, b)
	}
}

// pair is a heap with a record that is the root and an array within it; extra things are made ahead, so that numbers differ.
func pair(extra int) (*heap.Heap, api.Value, api.Value) {
	h := heap.New(100)
	for range extra {
		h.Lay(-1, nil)
	}
	r := h.Lay(0, []api.Value{num(5), null})
	a := h.Lay(-1, []api.Value{r, num(6)})
	h.SetField(r, 0, 1, a)
	h.SetRoot(r)
	return h, r, a
}

func TestSameButForOneThing(t *testing.T) { // P9.2
	h, _, a := pair(0)
	g, _, b := pair(3)
	result := func(v api.Value) api.Result {
		return api.Result{End: api.EndHalt, Value: v, Out: []int64{1, 2}, Read: 3, Steps: 4, Cells: 5}
	}
	wantSame(t, result(a), h, result(b), g, true)
	for name, change := range map[string]func(*api.Result){
		"end":       func(r *api.Result) { r.End = api.EndFuel },
		"odd end":   func(r *api.Result) { r.End = -1 },
		"trap":      func(r *api.Result) { r.Trap = api.TrapDiv },
		"out":       func(r *api.Result) { r.Out = []int64{1, 3} },
		"order":     func(r *api.Result) { r.Out = []int64{2, 1} },
		"less out":  func(r *api.Result) { r.Out = []int64{1} },
		"more out":  func(r *api.Result) { r.Out = []int64{1, 2, 0} },
		"no out":    func(r *api.Result) { r.Out = nil },
		"read":      func(r *api.Result) { r.Read = 4 },
		"steps":     func(r *api.Result) { r.Steps = 3 },
		"cells":     func(r *api.Result) { r.Cells = 6 },
		"number":    func(r *api.Result) { r.Value = num(1) },
		"null":      func(r *api.Result) { r.Value = null },
		"root":      func(r *api.Result) { r.Value = g.Root() },
		"no thing":  func(r *api.Result) { r.Value = ref(0) },
		"odd value": func(r *api.Result) { r.Value = ref(99) },
	} {
		other := result(b)
		change(&other)
		if Same(result(a), h, other, g) || Same(other, g, result(a), h) {
			t.Error(name)
		}
		wantSame(t, other, g, other, g, true)
	}
	for end := range 3 {
		for trap := range 3 {
			x, y := result(a), result(b)
			x.End, x.Trap, y.End, y.Trap = end, trap, end, trap
			wantSame(t, x, h, y, g, true)
			y.Trap++
			wantSame(t, x, h, y, g, false)
		}
	}
}

func TestSameOfHeaps(t *testing.T) { // P9.2
	r := api.Result{Value: num(1)}
	for name, change := range map[string]func(g *heap.Heap, r, a api.Value){
		"another cell":    func(g *heap.Heap, r, a api.Value) { g.SetField(r, 0, 0, num(4)) },
		"null":            func(g *heap.Heap, r, a api.Value) { g.SetField(r, 0, 0, null) },
		"an element":      func(g *heap.Heap, r, a api.Value) { g.SetElem(a, num(1), num(7)) },
		"a loop":          func(g *heap.Heap, r, a api.Value) { g.SetElem(a, num(0), a) },
		"a copy":          func(g *heap.Heap, r, a api.Value) { g.SetElem(a, num(0), g.Lay(0, []api.Value{num(5), a})) },
		"another root":    func(g *heap.Heap, r, a api.Value) { g.SetRoot(a) },
		"a number's root": func(g *heap.Heap, r, a api.Value) { g.SetRoot(num(r.N)) },
		"another sort":    func(g *heap.Heap, r, a api.Value) { g.SetRoot(g.Lay(1, []api.Value{num(5), a})) },
		"no record":       func(g *heap.Heap, r, a api.Value) { g.SetRoot(g.Lay(-1, []api.Value{num(5), a})) },
		"more cells":      func(g *heap.Heap, r, a api.Value) { g.SetRoot(g.Lay(0, []api.Value{num(5), a, num(0)})) },
	} {
		h, _, _ := pair(0)
		g, x, y := pair(2)
		wantSame(t, r, h, r, g, true)
		change(g, x, y)
		if Same(r, h, r, g) || Same(r, g, r, h) {
			t.Error(name)
		}
	}
	// What nobody reaches doesn't count, nor what the heaps have taken (Cells tells that).
	h, _, _ := pair(0)
	g, _, _ := pair(0)
	g.Lay(4, []api.Value{num(8)})
	g.Charge(7)
	wantSame(t, r, h, r, g, true)
}

// TestSameThingAsValueAndRoot has a value that is, or isn't, the thing that the root is.
func TestSameThingAsValueAndRoot(t *testing.T) { // P9.2
	h, g := heap.New(9), heap.New(9)
	one := h.Lay(0, []api.Value{num(3)})
	h.SetRoot(one)
	g.SetRoot(g.Lay(0, []api.Value{num(3)}))
	other := g.Lay(0, []api.Value{num(3)})
	wantSame(t, api.Result{Value: one}, h, api.Result{Value: g.Root()}, g, true)
	wantSame(t, api.Result{Value: one}, h, api.Result{Value: other}, g, false)
	wantSame(t, api.Result{Value: other}, g, api.Result{Value: other}, g, true)
}

func TestSameOfRuns(t *testing.T) { // P9.2
	run := func(s string, lim api.Limits) (api.Result, *heap.Heap) { return done(t, sorts+s, nil, []int64{4}, lim) }
	made := "fn main() { let a = new P; let b = new Q; a.x = b; b.z = a; root = a; return b; }"
	otherwise := "fn main() { let b = new Q; let a = new P; a.x = b; b.z = a; root = a; return b; }"
	x, h := run(made, wide)
	y, g := run(otherwise, wide)
	if x.Value == y.Value {
		t.Fatal("their numbers should differ", x, y)
	}
	wantSame(t, x, h, y, g, true)
	for i, s := range []string{
		"fn main() { let a = new P; let b = new Q; a.y = b; b.z = a; root = a; return b; }",
		"fn main() { let a = new P; let b = new Q; a.x = b; b.z = a; root = a; return a; }",
		"fn main() { let a = new P; let b = new Q; a.x = b; b.z = a; root = b; return b; }",
		"fn main() { let a = new P; let b = new Q; a.x = b; b.z = a; root = a; stop b; out 1; }",
		"fn main() { let a = new P; let b = new Q; a.x = b; b.z = a; root = a; out 1; return b; }",
		"fn main() { let a = new P; let b = new Q; a.x = b; b.z = a; root = a; return promote(b); }",
		"fn main() { let a = new P; let b = new Q; a.x = b; b.z = a; root = a; return f(b, in()); } fn f(b, c) { }",
		"fn main() { let a = new P; let b = new Q; a.x = b; b.z = a; root = a; return f(b, new E); } fn f(b, c) { }",
	} {
		z, f := run(s, wide)
		wantSame(t, x, h, z, f, i == 3 || i == 5)
	}
	less, f := run(made, api.Limits{Fuel: 5, Depth: 9, Cells: 99})
	wantSame(t, x, h, less, f, false)
	less, f = run(made, api.Limits{Fuel: 99, Depth: 9, Cells: 4})
	wantSame(t, x, h, less, f, false)
}

func TestSameOfAnything(t *testing.T) { // P1, P2, P3, P9.2
	full, _, _ := pair(1)
	heaps := []*heap.Heap{nil, {}, heap.New(0), full}
	values := []api.Value{{}, null, num(-5), ref(0), ref(1), ref(2), ref(-1), ref(1 << 40), {Kind: 9, N: 3}, {Kind: -1}, {Kind: api.Null, N: 4}}
	outs := [][]int64{nil, {}, {0}, {1, 2}}
	for i, h := range heaps {
		for j, g := range heaps {
			for _, v := range values {
				for k, x := range outs {
					for l, y := range outs {
						got := Same(api.Result{Value: v, Out: x}, h, api.Result{Value: v, Out: y}, g)
						// Of heaps that have nothing all are alike; nothing and no things are one.
						alike := i == j || i < 3 && j < 3
						sameOut := k == l || k < 2 && l < 2
						if alike && got != sameOut || !sameOut && got || got && (i == 3) != (j == 3) {
							t.Fatal(i, j, v, x, y, got)
						}
					}
				}
			}
		}
	}
	out := []int64{1, 2, 3, 4}
	a := api.Result{End: 7, Trap: -3, Out: out[:2], Read: -1, Steps: -2, Cells: -3}
	b := api.Result{End: 7, Trap: -3, Out: []int64{1, 2}, Read: -1, Steps: -2, Cells: -3}
	wantSame(t, a, nil, b, nil, true)
	if out[0] != 1 || out[1] != 2 || out[2] != 3 || out[3] != 4 {
		t.Error(out)
	}
}
