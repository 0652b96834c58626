package heap

import (
	"math"
	"testing"

	"swath/api"
)

var null = api.Value{Kind: api.Null}

func num(n int64) api.Value { return api.Value{Kind: api.Int, N: n} }

func ref(n int64) api.Value { return api.Value{Kind: api.Ref, N: n} }

// oddKinds are values of no kind that there is.
func oddKinds() []api.Value {
	return []api.Value{{Kind: -1}, {Kind: 3}, {Kind: 3, N: 1}, {Kind: math.MaxInt}, {Kind: math.MinInt}, {Kind: 258}}
}

// nulls are null and odd ones, which are no less null.
func nulls() []api.Value {
	return []api.Value{null, {Kind: api.Null, N: 1}, {Kind: api.Null, N: -1}, {Kind: api.Null, N: math.MinInt64}}
}

// noThings are values that are no thing of a heap with so many things, and not null.
func noThings(things int64) []api.Value {
	l := []api.Value{num(0), num(1), num(-1), ref(things), ref(things + 1), ref(-1), ref(math.MinInt64), ref(math.MaxInt64), ref(1 << 32), ref(-1 << 32)}
	return append(l, oddKinds()...)
}

// laidOut is everything that h tells of itself, so that changes are seen.
func laidOut(h *Heap) []api.Value {
	l := []api.Value{num(int64(h.Used())), h.Root()}
	for i := int64(0); ; i++ {
		o, ok := h.Obj(ref(i))
		if !ok {
			return l
		}
		l = append(append(l, num(int64(o.Rec)), num(int64(len(o.Cells)))), o.Cells...)
	}
}

func alike(a, b []api.Value) bool {
	if len(a) != len(b) {
		return false
	}
	for i := range a {
		if a[i] != b[i] {
			return false
		}
	}
	return true
}

// unchanged does act and fails if h tells anything else behind it.
func unchanged(t *testing.T, h *Heap, what string, act func()) {
	t.Helper()
	ahead := laidOut(h)
	act()
	if behind := laidOut(h); !alike(ahead, behind) {
		t.Fatal(what, "changed", ahead, "into", behind)
	}
}

func wantMade(t *testing.T, what string, v api.Value, trap int, want int64) {
	t.Helper()
	if v != ref(want) || trap != 0 {
		t.Fatal(what, v, trap, "instead of thing", want)
	}
}

func wantTrap(t *testing.T, what string, v api.Value, trap, want int) {
	t.Helper()
	if v != num(0) || trap != want {
		t.Fatal(what, v, trap, "instead of trap", want)
	}
}

// two is a heap with record 0 of sort 2 (cells 10, 11, null) and array 1 (cells 20, thing 0).
func two(t *testing.T) (*Heap, api.Value, api.Value) {
	t.Helper()
	h := New(100)
	r, _ := h.Rec(2, 3)
	a, _ := h.Arr(num(2))
	ok := h.SetField(r, 2, 0, num(10)) == 0 && h.SetField(r, 2, 1, num(11)) == 0 && h.SetField(r, 2, 2, null) == 0
	if !ok || h.SetElem(a, num(0), num(20)) != 0 || h.SetElem(a, num(1), r) != 0 {
		t.Fatal("nothing is laid")
	}
	return h, r, a
}

func TestNewIsEmpty(t *testing.T) { // P2.1, P2.6
	h := New(5)
	if h == nil || h.Used() != 0 || h.Root() != num(0) {
		t.Fatal(h)
	}
	if _, ok := h.Obj(ref(0)); ok {
		t.Fatal("a new heap has a thing")
	}
	if h == New(5) {
		t.Fatal("one heap twice")
	}
}

func TestLimits(t *testing.T) { // P2.1
	for _, c := range []struct{ limit, most int }{
		{0, 0}, {-1, 0}, {math.MinInt, 0}, {1, 1}, {7, 7}, {9999999, 9999999}, {10000000, 10000000}, {10000001, 10000000}, {math.MaxInt, 10000000}, {1 << 32, 10000000},
	} {
		h := New(c.limit)
		if trap := h.Charge(c.most + 1); trap != api.TrapCells || h.Used() != 0 {
			t.Error(c, "one more is taken", trap, h.Used())
		}
		if trap := h.Charge(c.most); trap != 0 || h.Used() != c.most {
			t.Error(c, "the most isn't taken", trap, h.Used())
		}
		if trap := h.Charge(1); trap != api.TrapCells || h.Used() != c.most {
			t.Error(c, "one behind the most is taken", trap, h.Used())
		}
		if trap := h.Charge(0); trap != 0 {
			t.Error(c, "none can't be taken", trap)
		}
	}
}

func TestGreatestArray(t *testing.T) { // P2.1, P2.2
	h := New(math.MaxInt)
	v, trap := h.Arr(num(10000000))
	wantTrap(t, "one too many", v, trap, api.TrapCells)
	a, trap := h.Arr(num(9999999))
	wantMade(t, "the greatest array", a, trap, 0)
	if n, _ := h.Len(a); n != num(9999999) || h.Used() != 10000000 {
		t.Fatal(n, h.Used())
	}
	if v, trap := h.Elem(a, num(9999998)); v != num(0) || trap != 0 {
		t.Fatal(v, trap)
	}
}

func TestHeapsThatNobodyMade(t *testing.T) { // P2.1
	for _, h := range []*Heap{nil, {}, new(Heap)} {
		for _, x := range append(append(nulls(), noThings(0)...), ref(0)) {
			for _, n := range []int{0, 1, -1, 1000, 1001, math.MaxInt, math.MinInt} {
				v, trap := h.Rec(n, 0)
				wantTrap(t, "Rec", v, trap, api.TrapCells)
				v, trap = h.Rec(0, n)
				wantTrap(t, "Rec", v, trap, api.TrapCells)
				if v := h.Lay(n, []api.Value{x}); v != num(0) {
					t.Fatal("Lay", v)
				}
				if trap := h.Charge(n); trap != api.TrapType {
					t.Fatal("Charge", n, trap)
				}
				v, trap = h.Field(x, n, n)
				wantTrap(t, "Field", v, trap, api.TrapType)
				if trap := h.SetField(x, n, n, x); trap != api.TrapType {
					t.Fatal("SetField", trap)
				}
			}
			v, trap := h.Arr(x)
			wantTrap(t, "Arr", v, trap, api.TrapCells)
			v, trap = h.Elem(x, num(0))
			wantTrap(t, "Elem", v, trap, api.TrapType)
			v, trap = h.Len(x)
			wantTrap(t, "Len", v, trap, api.TrapType)
			if trap := h.SetElem(x, num(0), x); trap != api.TrapType {
				t.Fatal("SetElem", trap)
			}
			h.SetRoot(x)
			if o, ok := h.Obj(x); ok || o.Rec != 0 || o.Cells != nil {
				t.Fatal("Obj", o, ok)
			}
			if h.Used() != 0 || h.Root() != num(0) {
				t.Fatal("it has something", h.Used(), h.Root())
			}
		}
	}
}

func TestRec(t *testing.T) { // P2.2
	h := New(10000)
	used := 0
	for i, c := range []struct{ rec, fields int }{{0, 0}, {0, 1}, {1, 2}, {7, 1000}, {math.MaxInt, 3}, {0, 999}} {
		v, trap := h.Rec(c.rec, c.fields)
		wantMade(t, "Rec", v, trap, int64(i))
		used += 1 + c.fields
		if h.Used() != used {
			t.Fatal(c, "took", h.Used(), "instead of", used)
		}
		o, ok := h.Obj(v)
		if !ok || o.Rec != c.rec || len(o.Cells) != c.fields {
			t.Fatal(c, ok, o.Rec, len(o.Cells))
		}
		for _, x := range o.Cells {
			if x != num(0) {
				t.Fatal(c, "begins with", x)
			}
		}
	}
}

func TestWrongRec(t *testing.T) { // P2.2
	h, _, _ := two(t)
	for _, c := range []struct{ rec, fields, trap int }{
		{-1, 0, api.TrapType}, {math.MinInt, 0, api.TrapType}, {0, -1, api.TrapType}, {0, 1001, api.TrapType}, {0, math.MaxInt, api.TrapType}, {0, math.MinInt, api.TrapType},
		{-1, 1000, api.TrapType}, {-1, -1, api.TrapType}, {0, 1000, api.TrapCells}, {0, 93, api.TrapCells},
	} {
		unchanged(t, h, "Rec", func() {
			v, trap := h.Rec(c.rec, c.fields)
			wantTrap(t, "Rec", v, trap, c.trap)
		})
	}
}

func TestArr(t *testing.T) { // P2.2
	h := New(2000)
	used := 0
	for i, n := range []int64{0, 1, 5, 1000, 900, 0} {
		v, trap := h.Arr(num(n))
		wantMade(t, "Arr", v, trap, int64(i))
		used += 1 + int(n)
		o, ok := h.Obj(v)
		if !ok || o.Rec != -1 || int64(len(o.Cells)) != n || h.Used() != used {
			t.Fatal(n, ok, o.Rec, len(o.Cells), h.Used())
		}
		for _, x := range o.Cells {
			if x != num(0) {
				t.Fatal(n, "begins with", x)
			}
		}
	}
}

func TestWrongArr(t *testing.T) { // P2.2
	h, r, a := two(t)
	check := func(n api.Value, want int) {
		t.Helper()
		unchanged(t, h, "Arr", func() {
			v, trap := h.Arr(n)
			wantTrap(t, "Arr", v, trap, want)
		})
	}
	for _, n := range append(append(oddKinds(), nulls()...), r, a, ref(-1), ref(9)) {
		check(n, api.TrapType)
	}
	for _, n := range []int64{-1, -2, math.MinInt64, -1 << 32} {
		check(num(n), api.TrapIndex)
	}
	for _, n := range []int64{93, 100, 9999999, 10000000, 10000001, 1 << 32, math.MaxInt64 - 1, math.MaxInt64} {
		check(num(n), api.TrapCells)
	}
}

func TestAsManyAsAreLeft(t *testing.T) { // P2.2, P2.3
	for left := 0; left < 6; left++ {
		for size := 0; size < 8; size++ {
			want := 0
			if 1+size > left {
				want = api.TrapCells
			}
			for i, trap := range []int{
				made(New(left), size, recOf), made(New(left), size, arrOf), made(charged(left), size, recOf), made(charged(left), size, arrOf),
			} {
				if trap != want {
					t.Error(i, "of", left, "cells left a thing of", size, trap, want)
				}
			}
		}
	}
}

func recOf(h *Heap, n int) (api.Value, int) { return h.Rec(0, n) }

func arrOf(h *Heap, n int) (api.Value, int) { return h.Arr(num(int64(n))) }

// charged is a heap of which so many cells are left.
func charged(left int) *Heap {
	h := New(left + 3)
	h.Charge(3)
	return h
}

// made answers the trap, or -1 where the cells that are taken don't tell the same.
func made(h *Heap, n int, act func(*Heap, int) (api.Value, int)) int {
	used := h.Used()
	v, trap := act(h, n)
	_, there := h.Obj(ref(0))
	if there != (trap == 0) || v != num(0) && trap != 0 {
		return -1
	}
	if trap == 0 && (h.Used() != used+1+n || v != ref(0)) || trap != 0 && h.Used() != used {
		return -1
	}
	return trap
}

func TestNumberedAsMade(t *testing.T) { // P2.2, P2.3
	h := New(4)
	v, trap := h.Rec(0, 0)
	wantMade(t, "the first", v, trap, 0)
	h.Rec(-1, 0)
	h.Arr(num(9))
	v, trap = h.Arr(num(0))
	wantMade(t, "the second", v, trap, 1)
	h.Charge(1)
	wantMade(t, "the third", h.Lay(0, nil), 0, 2)
	v, trap = h.Rec(3, 0)
	wantMade(t, "the fourth", v, trap, 3)
	wantMade(t, "the fifth", h.Lay(-1, nil), 0, 4)
}

func TestCharge(t *testing.T) { // P2.3
	h := New(10)
	for _, c := range []struct{ n, trap, used int }{
		{0, 0, 0}, {4, 0, 4}, {7, api.TrapCells, 4}, {-1, api.TrapType, 4}, {math.MinInt, api.TrapType, 4}, {math.MaxInt, api.TrapCells, 4}, {6, 0, 10}, {0, 0, 10}, {1, api.TrapCells, 10}, {-1, api.TrapType, 10}, {math.MaxInt, api.TrapCells, 10},
	} {
		if trap := h.Charge(c.n); trap != c.trap || h.Used() != c.used {
			t.Error(c, trap, h.Used())
		}
	}
	if _, ok := h.Obj(ref(0)); ok {
		t.Error("Charge made a thing")
	}
	v, trap := h.Rec(0, 0)
	wantTrap(t, "what is charged is gone", v, trap, api.TrapCells)
}

func TestLay(t *testing.T) { // P2.3
	h := New(0)
	many := make([]api.Value, 1500)
	many[1499] = num(8)
	cells := append(append(nulls(), noThings(0)...), ref(0), ref(5))
	for i, c := range []struct {
		rec, want int
		cells     []api.Value
	}{{0, 0, nil}, {0, 0, cells}, {-1, -1, cells}, {-2, -1, []api.Value{num(1)}}, {math.MinInt, -1, nil}, {math.MaxInt, math.MaxInt, cells}, {5, 5, many}, {-1, -1, many}} {
		wantMade(t, "Lay", h.Lay(c.rec, c.cells), 0, int64(i))
		o, ok := h.Obj(ref(int64(i)))
		if !ok || o.Rec != c.want || !alike(o.Cells, c.cells) || h.Used() != 0 {
			t.Fatal(c.rec, o.Rec, o.Cells, h.Used())
		}
	}
	if v, trap := h.Field(ref(1), 0, 4); v != num(0) || trap != 0 {
		t.Fatal("a laid record's cell", v, trap)
	}
	if n, trap := h.Len(ref(7)); n != num(1500) || trap != 0 {
		t.Fatal("a laid array's length", n, trap)
	}
	if trap := h.SetElem(ref(3), num(0), ref(3)); trap != 0 {
		t.Fatal("a laid array isn't laid into", trap)
	}
}
