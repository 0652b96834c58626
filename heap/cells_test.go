package heap

import (
	"math"
	"testing"

	"swath/api"
)

func TestField(t *testing.T) { // P2.4
	h, r, _ := two(t)
	for at, want := range []api.Value{num(10), num(11), null} {
		if v, trap := h.Field(r, 2, at); v != want || trap != 0 {
			t.Error(at, v, trap)
		}
	}
}

// wrongFields are calls of Field on the heap of two that trap.
func wrongFields(r, a api.Value) []struct {
	v             api.Value
	rec, at, trap int
} {
	type call = struct {
		v             api.Value
		rec, at, trap int
	}
	l := []call{{a, -1, 0, api.TrapType}, {a, 2, 0, api.TrapType}, {a, 0, 0, api.TrapType}, {a, -2, 0, api.TrapType}}
	for _, rec := range []int{0, 1, 3, -1, -2, math.MaxInt, math.MinInt} {
		l = append(l, call{r, rec, 0, api.TrapType})
	}
	for _, at := range []int{3, 4, -1, math.MaxInt, math.MinInt, 1 << 32} {
		l = append(l, call{r, 2, at, api.TrapType})
	}
	for _, v := range noThings(2) {
		l = append(l, call{v, 2, 0, api.TrapType})
	}
	for _, v := range nulls() {
		l = append(l, call{v, 2, 0, api.TrapNull}, call{v, -1, 0, api.TrapNull}, call{v, 2, -1, api.TrapNull}, call{v, 9, 9, api.TrapNull})
	}
	return l
}

func TestWrongField(t *testing.T) { // P2.4
	h, r, a := two(t)
	for _, c := range wrongFields(r, a) {
		unchanged(t, h, "Field", func() {
			v, trap := h.Field(c.v, c.rec, c.at)
			wantTrap(t, "Field", v, trap, c.trap)
		})
		unchanged(t, h, "SetField", func() {
			if trap := h.SetField(c.v, c.rec, c.at, num(77)); trap != c.trap {
				t.Fatal("SetField", c, trap)
			}
		})
	}
}

func TestSetField(t *testing.T) { // P2.4
	h, r, a := two(t)
	want := []api.Value{num(10), num(11), null}
	for _, x := range append(append(nulls(), noThings(2)...), r, a, num(math.MinInt64), num(math.MaxInt64)) {
		for at := range want {
			want[at] = x
			if trap := h.SetField(r, 2, at, x); trap != 0 {
				t.Fatal(at, x, trap)
			}
			if v, trap := h.Field(r, 2, at); v != x || trap != 0 {
				t.Fatal(at, x, v, trap)
			}
			if o, _ := h.Obj(r); !alike(o.Cells, want) {
				t.Fatal(at, x, o.Cells, want)
			}
		}
	}
	if v, _ := h.Elem(a, num(0)); v != num(20) || h.Used() != 7 {
		t.Fatal("another thing is changed", v, h.Used())
	}
}

func TestElem(t *testing.T) { // P2.5
	h, r, a := two(t)
	for at, want := range []api.Value{num(20), r} {
		if v, trap := h.Elem(a, num(int64(at))); v != want || trap != 0 {
			t.Error(at, v, trap)
		}
	}
}

type elemCall struct {
	v, at api.Value
	trap  int
}

// wrongElems are calls of Elem on the heap of two that trap.
func wrongElems(r, a api.Value) []elemCall {
	noInts := append(append(oddKinds(), nulls()...), r, a, ref(-1), ref(99))
	noIndexes := []api.Value{num(2), num(3), num(-1), num(math.MaxInt64), num(math.MinInt64), num(1 << 32)}
	var l []elemCall
	for _, at := range noIndexes {
		l = append(l, elemCall{a, at, api.TrapIndex}, elemCall{r, at, api.TrapType})
	}
	for _, at := range noInts {
		l = append(l, elemCall{a, at, api.TrapType}, elemCall{r, at, api.TrapType})
	}
	for _, at := range append(append(noInts, noIndexes...), num(0)) {
		for _, v := range append(noThings(2), r) {
			l = append(l, elemCall{v, at, api.TrapType})
		}
		for _, v := range nulls() {
			l = append(l, elemCall{v, at, api.TrapNull})
		}
	}
	return l
}

func TestWrongElem(t *testing.T) { // P2.5
	h, r, a := two(t)
	for _, c := range wrongElems(r, a) {
		unchanged(t, h, "Elem", func() {
			v, trap := h.Elem(c.v, c.at)
			wantTrap(t, "Elem", v, trap, c.trap)
		})
		unchanged(t, h, "SetElem", func() {
			if trap := h.SetElem(c.v, c.at, num(77)); trap != c.trap {
				t.Fatal("SetElem", c, trap)
			}
		})
	}
}

func TestEmptyThings(t *testing.T) { // P2.4, P2.5
	h := New(9)
	r, _ := h.Rec(0, 0)
	a, _ := h.Arr(num(0))
	v, trap := h.Field(r, 0, 0)
	wantTrap(t, "a record without cells", v, trap, api.TrapType)
	v, trap = h.Elem(a, num(0))
	wantTrap(t, "an array without cells", v, trap, api.TrapIndex)
	if n, trap := h.Len(a); n != num(0) || trap != 0 {
		t.Fatal("its length", n, trap)
	}
}

func TestSetElem(t *testing.T) { // P2.5
	h, r, a := two(t)
	want := []api.Value{num(20), r}
	for _, x := range append(append(nulls(), noThings(2)...), r, a, num(math.MinInt64), num(math.MaxInt64)) {
		for at := range want {
			want[at] = x
			if trap := h.SetElem(a, num(int64(at)), x); trap != 0 {
				t.Fatal(at, x, trap)
			}
			if v, trap := h.Elem(a, num(int64(at))); v != x || trap != 0 {
				t.Fatal(at, x, v, trap)
			}
			if o, _ := h.Obj(a); !alike(o.Cells, want) {
				t.Fatal(at, x, o.Cells, want)
			}
		}
	}
	if v, _ := h.Field(r, 2, 0); v != num(10) || h.Used() != 7 {
		t.Fatal("another thing is changed", v, h.Used())
	}
}

func TestLen(t *testing.T) { // P2.5
	h, r, a := two(t)
	if n, trap := h.Len(a); n != num(2) || trap != 0 {
		t.Fatal(n, trap)
	}
	for _, v := range append(noThings(2), r) {
		n, trap := h.Len(v)
		wantTrap(t, "Len", n, trap, api.TrapType)
	}
	for _, v := range nulls() {
		n, trap := h.Len(v)
		wantTrap(t, "Len", n, trap, api.TrapNull)
	}
}

func TestRecordsOfAllSortsAreNoArrays(t *testing.T) { // P2.5
	h := New(50)
	for _, sort := range []int{0, 1, 2, math.MaxInt} {
		r, _ := h.Rec(sort, 2)
		n, trap := h.Len(r)
		wantTrap(t, "Len", n, trap, api.TrapType)
		v, trap := h.Elem(r, num(0))
		wantTrap(t, "Elem", v, trap, api.TrapType)
		if trap := h.SetElem(r, num(0), num(1)); trap != api.TrapType {
			t.Fatal("SetElem", sort, trap)
		}
	}
}

func TestObj(t *testing.T) { // P2.6
	h, r, a := two(t)
	if o, ok := h.Obj(r); !ok || o.Rec != 2 || !alike(o.Cells, []api.Value{num(10), num(11), null}) {
		t.Fatal(o, ok)
	}
	if o, ok := h.Obj(a); !ok || o.Rec != -1 || !alike(o.Cells, []api.Value{num(20), r}) {
		t.Fatal(o, ok)
	}
	for _, v := range append(noThings(2), nulls()...) {
		if o, ok := h.Obj(v); ok || o.Rec != 0 || o.Cells != nil {
			t.Fatal(v, o, ok)
		}
	}
}

func TestRoot(t *testing.T) { // P2.6
	h, r, a := two(t)
	other := New(1)
	for _, v := range append(append(nulls(), noThings(2)...), r, a, num(0)) {
		h.SetRoot(v)
		if h.Root() != v || h.Used() != 7 || other.Root() != num(0) {
			t.Fatal(v, h.Root(), h.Used(), other.Root())
		}
	}
}

func TestNobodyElsesMemory(t *testing.T) { // P2
	h := New(50)
	cells := []api.Value{num(1), num(2), num(3), num(4)}
	v := h.Lay(0, cells[:2])
	cells[0] = num(9)
	if x, _ := h.Field(v, 0, 0); x != num(1) {
		t.Fatal("what was handed in is still the giver's", x)
	}
	if h.SetField(v, 0, 1, num(8)) != 0 || cells[1] != num(2) {
		t.Fatal("what was handed in is changed", cells)
	}
	if o, _ := h.Obj(v); len(o.Cells) != 2 {
		t.Fatal("more than the list is taken", o.Cells)
	}
	one, _ := h.Obj(v)
	same, _ := h.Obj(v)
	one.Cells[0] = num(7)
	_ = append(one.Cells, num(6))
	if x, _ := h.Field(v, 0, 0); x != num(1) || same.Cells[0] != num(1) {
		t.Fatal("what was handed out is the heap's", x, same.Cells)
	}
	if h.SetField(v, 0, 0, num(5)) != 0 || same.Cells[0] != num(1) || one.Cells[0] != num(7) {
		t.Fatal("what was handed out is changed", one.Cells, same.Cells)
	}
	for i, x := range same.Cells[:cap(same.Cells)] {
		if i >= 2 && x != num(0) {
			t.Fatal("what lies behind is handed out", x)
		}
	}
}

func TestThingsApart(t *testing.T) { // P2
	h := New(50)
	r, _ := h.Rec(0, 2)
	s, _ := h.Rec(0, 2)
	if h.SetField(r, 0, 1, num(3)) != 0 {
		t.Fatal("nothing is laid")
	}
	if o, _ := h.Obj(s); !alike(o.Cells, []api.Value{num(0), num(0)}) {
		t.Fatal(o)
	}
	g := New(50)
	if _, ok := g.Obj(r); ok || g.Used() != 0 {
		t.Fatal("another heap has it")
	}
}

func TestExample(t *testing.T) {
	h := New(3)
	v, trap := h.Rec(0, 2)
	wantMade(t, "Rec", v, trap, 0)
	v, trap = h.Rec(0, 0)
	wantTrap(t, "Rec", v, trap, api.TrapCells)
	v, trap = h.Field(null, 0, 0)
	wantTrap(t, "Field", v, trap, api.TrapNull)
}
