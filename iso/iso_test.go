package iso

import (
	"math"
	"slices"
	"testing"

	"swath/api"
	"swath/heap"
)

var null = api.Value{Kind: api.Null}

func num(n int64) api.Value { return api.Value{Kind: api.Int, N: n} }

func ref(n int64) api.Value { return api.Value{Kind: api.Ref, N: n} }

func rec(sort int, cells ...api.Value) api.Obj { return api.Obj{Rec: sort, Cells: cells} }

func arr(cells ...api.Value) api.Obj { return api.Obj{Rec: -1, Cells: cells} }

func list(l ...api.Value) []api.Value { return l }

// laid is a heap with those things, numbered in their order.
func laid(things ...api.Obj) *heap.Heap {
	h := heap.New(0)
	for _, o := range things {
		h.Lay(o.Rec, o.Cells)
	}
	return h
}

// empties are heaps that have no things.
func empties() []*heap.Heap { return []*heap.Heap{nil, {}, heap.New(0), heap.New(5)} }

// odds are values that are odd in a heap with so many things.
func odds(things int64) []api.Value {
	return []api.Value{
		{Kind: -1}, {Kind: 3}, {Kind: 3, N: 1}, {Kind: 4, N: 1}, {Kind: math.MaxInt}, {Kind: math.MinInt, N: -1}, {Kind: 258},
		{Kind: api.Null, N: 1}, {Kind: api.Null, N: -1}, {Kind: api.Null, N: math.MinInt64}, {Kind: api.Null, N: 1 << 32},
		ref(things), ref(things + 1), ref(-1), ref(math.MinInt64), ref(math.MaxInt64), ref(1 << 32), ref(-1 << 32),
	}
}

// wantSame asks both ways round.
func wantSame(t *testing.T, a *heap.Heap, x []api.Value, b *heap.Heap, y []api.Value, want bool) {
	t.Helper()
	if Same(a, x, b, y) != want || Same(b, y, a, x) != want {
		t.Fatal(Show(a, x), "and", Show(b, y), "aren't told to be alike:", want)
	}
}

func TestSamePlainValues(t *testing.T) { // P3.1
	values := []api.Value{num(0), num(1), num(-1), num(2), num(1 << 32), num(math.MaxInt64), num(math.MinInt64), null}
	for _, a := range empties() {
		for _, b := range empties() {
			for i, v := range values {
				for j, w := range values {
					wantSame(t, a, list(v), b, list(w), i == j)
					wantSame(t, a, list(num(3), v), b, list(num(3), w), i == j)
					wantSame(t, a, list(v, num(3)), b, list(w, num(3)), i == j)
				}
			}
		}
	}
}

func TestSameLengths(t *testing.T) { // P3.1
	a, b := laid(rec(0, ref(0))), laid(rec(0, ref(0)))
	lists := [][]api.Value{nil, list(num(5)), list(num(5), num(5)), list(num(5), num(5), ref(0)), list(num(5), num(5), ref(0), ref(0))}
	for i, x := range lists {
		for j, y := range lists {
			wantSame(t, a, x, b, y, i == j)
		}
	}
	wantSame(t, a, nil, b, []api.Value{}, true)
	wantSame(t, nil, nil, b, []api.Value{}, true)
	long := list(num(5), num(6))
	wantSame(t, a, long[:1], b, list(num(5)), true)
	wantSame(t, a, long[:0], b, nil, true)
}

func TestSameThings(t *testing.T) { // P3.1
	a := laid(rec(0, num(1), ref(1)), arr(num(2), null))
	b := laid(rec(7), arr(num(2), null), rec(0, num(1), ref(1)))
	wantSame(t, a, list(ref(0)), b, list(ref(2)), true)
	wantSame(t, a, list(ref(0), ref(1)), b, list(ref(2), ref(1)), true)
	wantSame(t, a, list(ref(1), ref(0)), b, list(ref(1), ref(2)), true)
	wantSame(t, a, list(ref(1), ref(0)), b, list(ref(2), ref(1)), false)
	wantSame(t, a, list(ref(0)), b, list(ref(0)), false)
	for _, v := range list(num(0), num(1), num(2), null) {
		wantSame(t, a, list(ref(1)), b, list(v), false)
		wantSame(t, a, list(ref(0)), b, list(v), false)
	}
}

func TestSameTellsThingsApart(t *testing.T) { // P3.1
	things := []api.Obj{
		rec(0), rec(1), rec(math.MaxInt), arr(), rec(0, num(0)), rec(0, num(1)), rec(1, num(1)), arr(num(0)), arr(num(1)), arr(null), rec(0, null),
		rec(0, num(1), num(0)), rec(0, num(0), num(1)), arr(num(0), num(0)), arr(ref(0)), rec(0, ref(0)), arr(ref(0), ref(0)),
		arr(ref(0), num(0)), arr(num(0), ref(0)), rec(0, ref(0), ref(0)),
	}
	for i, o := range things {
		for j, q := range things {
			wantSame(t, laid(o), list(ref(0)), laid(q), list(ref(0)), i == j)
			// One thing further in.
			in := func(o api.Obj) *heap.Heap { return laid(o, arr(num(4), ref(0))) }
			wantSame(t, in(o), list(ref(1)), in(q), list(ref(1)), i == j)
		}
	}
}

func TestSameOneToOne(t *testing.T) { // P3.1
	once := laid(rec(0, num(1)), arr(ref(0), ref(0)))
	twice := laid(rec(0, num(1)), rec(0, num(1)), arr(ref(0), ref(1)))
	wantSame(t, once, list(ref(1)), twice, list(ref(2)), false)
	wantSame(t, once, list(ref(0)), twice, list(ref(0)), true)
	wantSame(t, once, list(ref(0)), twice, list(ref(1)), true)
	wantSame(t, once, list(ref(0), ref(0)), twice, list(ref(0), ref(1)), false)
	wantSame(t, once, list(ref(0), ref(0)), twice, list(ref(1), ref(1)), true)
	wantSame(t, twice, list(ref(0), ref(1)), twice, list(ref(1), ref(0)), true)
	wantSame(t, twice, list(ref(0), ref(1), ref(0)), twice, list(ref(1), ref(0), ref(1)), true)
	wantSame(t, twice, list(ref(0), ref(1), ref(0)), twice, list(ref(1), ref(0), ref(0)), false)
	wantSame(t, twice, list(ref(2)), twice, list(ref(2)), true)
	wantSame(t, twice, list(ref(0), ref(2)), twice, list(ref(1), ref(2)), false)
}

func TestSameRings(t *testing.T) { // P3.1
	// Unrolled rings look alike from within, but no one-to-one map fits.
	ring := func(length int64) *heap.Heap {
		h := heap.New(0)
		for i := range length {
			h.Lay(3, list(num(9), ref((i+1)%length)))
		}
		return h
	}
	for m := int64(1); m < 6; m++ {
		for n := int64(1); n < 6; n++ {
			wantSame(t, ring(m), list(ref(0)), ring(n), list(ref(n-1)), m == n)
		}
	}
	wantSame(t, ring(4), list(ref(0), ref(1)), ring(4), list(ref(2), ref(3)), true)
	wantSame(t, ring(4), list(ref(0), ref(1)), ring(4), list(ref(2), ref(1)), false)
	wantSame(t, ring(4), list(ref(0), ref(2)), ring(4), list(ref(3), ref(1)), true)
}

func TestSameOddValues(t *testing.T) { // P3.1
	a, b := laid(rec(0)), laid(rec(0))
	all := append(odds(1), num(0), num(1), num(-1), null, ref(0))
	for i, v := range all {
		for j, w := range all {
			wantSame(t, a, list(v), b, list(w), i == j)
			wantSame(t, a, list(ref(0), v), b, list(ref(0), w), i == j)
			wantSame(t, laid(arr(), arr(v)), list(ref(1), ref(1)), laid(arr(), arr(w)), list(ref(1), ref(1)), i == j)
		}
	}
}

func TestSameOddOnOneSide(t *testing.T) { // P3.1
	one, two := laid(rec(0)), laid(rec(0), rec(0))
	wantSame(t, one, list(ref(1)), two, list(ref(1)), false)
	wantSame(t, one, list(ref(0), ref(1)), two, list(ref(0), ref(1)), false)
	wantSame(t, one, list(ref(2)), two, list(ref(2)), true)
	for _, h := range empties() {
		wantSame(t, h, list(ref(0)), one, list(ref(0)), false)
		wantSame(t, h, list(ref(1)), one, list(ref(1)), true)
		for _, g := range empties() {
			for i, v := range odds(0) {
				for j, w := range odds(0) {
					wantSame(t, h, list(v), g, list(w), i == j)
				}
			}
		}
	}
	// A thing that has a mate, beside a number that is odd there.
	wantSame(t, two, list(ref(0), ref(0)), one, list(ref(0), ref(1)), false)
	wantSame(t, two, list(ref(1), ref(1)), one, list(ref(0), ref(1)), false)
	wantSame(t, two, list(ref(0), ref(1)), one, list(ref(0), ref(0)), false)
}

func TestSameInOneHeap(t *testing.T) { // P3.1
	h := laid(rec(0, ref(1)), rec(0, ref(0)), rec(0, ref(2)))
	wantSame(t, h, list(ref(0)), h, list(ref(0)), true)
	wantSame(t, h, list(ref(0)), h, list(ref(1)), true)
	wantSame(t, h, list(ref(0), ref(1)), h, list(ref(1), ref(0)), true)
	wantSame(t, h, list(ref(0), ref(1)), h, list(ref(1), ref(1)), false)
	wantSame(t, h, list(ref(0)), h, list(ref(2)), false)
}

func wantReach(t *testing.T, h *heap.Heap, l []api.Value, want ...int64) {
	t.Helper()
	if got := Reach(h, l); !slices.Equal(got, want) {
		t.Fatal(got, "is reached instead of", want)
	}
}

func TestReach(t *testing.T) { // P3.2
	h := laid(arr(), rec(0, num(9), ref(4), ref(0)), rec(1, ref(2), ref(1)), arr(ref(1), ref(2), null, ref(5)), arr(ref(3)), rec(2), arr(ref(6)))
	wantReach(t, h, list(ref(0)), 0)
	wantReach(t, h, list(ref(6)), 6)
	wantReach(t, h, list(ref(6), ref(6), ref(0), ref(6), ref(0)), 6, 0)
	wantReach(t, h, list(ref(1)), 1, 4, 3, 2, 5, 0)
	wantReach(t, h, list(ref(2)), 2, 1, 4, 3, 5, 0)
	wantReach(t, h, list(ref(4), ref(0)), 4, 3, 1, 0, 2, 5)
	wantReach(t, h, list(num(1), ref(5), num(3), ref(3), ref(0)), 5, 3, 1, 4, 0, 2)
	wantReach(t, h, list(ref(0), ref(3)), 0, 3, 1, 4, 2, 5)
}

func TestReachNothing(t *testing.T) { // P3.2
	h := laid(arr(), rec(0, ref(7)))
	wantReach(t, h, nil)
	wantReach(t, h, []api.Value{})
	wantReach(t, h, list(num(0), num(1), null, num(-1)))
	wantReach(t, h, odds(2))
	wantReach(t, h, append(odds(2), ref(1)), 1)
	wantReach(t, laid(arr(odds(1)...)), list(ref(0)), 0)
	l := list(num(5), ref(1), ref(0))
	wantReach(t, h, l[:1])
	wantReach(t, h, l[:2], 1)
	for _, h := range empties() {
		wantReach(t, h, nil)
		wantReach(t, h, append(odds(0), num(0), null))
	}
}

func TestReachIsNew(t *testing.T) { // P2
	h := laid(arr(ref(0), ref(1)), arr())
	l := list(ref(1), ref(0))
	one, two := Reach(h, l), Reach(h, l)
	one[0], one[1] = 77, 78
	if !slices.Equal(two, []int64{1, 0}) || !slices.Equal(l, list(ref(1), ref(0))) {
		t.Fatal(two, l)
	}
	wantReach(t, h, l, 1, 0)
}

func TestNothingIsChanged(t *testing.T) { // P2
	things := []api.Obj{rec(0, ref(1), num(5)), arr(ref(0), null, ref(9))}
	h := laid(things...)
	x := list(ref(0), ref(1), num(3), ref(1))
	y := slices.Clone(x)
	wantSame(t, h, x[:3], h, y[:3], true)
	Reach(h, x[:3])
	Show(h, x[:3])
	if !slices.Equal(x, list(ref(0), ref(1), num(3), ref(1))) || !slices.Equal(x, y) {
		t.Fatal(x, y)
	}
	for i, want := range things {
		if o, ok := h.Obj(ref(int64(i))); !ok || o.Rec != want.Rec || !slices.Equal(o.Cells, want.Cells) {
			t.Fatal(i, o)
		}
	}
	if _, ok := h.Obj(ref(2)); ok || h.Used() != 0 {
		t.Fatal("something is made")
	}
}
