package iso

import (
	"math"
	"slices"
	"strconv"
	"strings"
	"testing"

	"swath/api"
	"swath/heap"
)

func wantShow(t *testing.T, h *heap.Heap, l []api.Value, want string) {
	t.Helper()
	if got := Show(h, l); got != want {
		t.Fatalf("%q is shown instead of %q", got, want)
	}
}

func TestShow(t *testing.T) { // P3.3
	h := laid(rec(0), arr(), rec(12, num(-4)), arr(num(6)), rec(3, num(1), null, num(2)), arr(num(1), null, num(2)), arr(ref(0), ref(1), ref(0), ref(4), ref(1)))
	for n, want := range []string{"@0{0}", "@0[]", "@0{12 -4}", "@0[6]", "@0{3 1 null 2}", "@0[1 null 2]", "@0[@1{0} @2[] @1 @3{3 1 null 2} @2]"} {
		wantShow(t, h, list(ref(int64(n))), want)
	}
	wantShow(t, h, list(num(0)), "0")
	wantShow(t, h, list(num(math.MinInt64), num(math.MaxInt64), null, num(1<<32)), "-9223372036854775808 9223372036854775807 null 4294967296")
	wantShow(t, h, list(ref(2), num(5), ref(2), ref(1), ref(2)), "@0{12 -4} 5 @0 @1[] @0")
	wantShow(t, h, list(ref(6), ref(5), ref(4)), "@0[@1{0} @2[] @1 @3{3 1 null 2} @2] @4[1 null 2] @3")
	wantShow(t, laid(rec(math.MaxInt, null)), list(ref(0)), "@0{9223372036854775807 null}")
}

func TestShowRings(t *testing.T) { // P3.3
	wantShow(t, laid(rec(0, num(5), ref(0))), list(ref(0)), "@0{0 5 @0}")
	h := laid(rec(1, ref(2), ref(1)), arr(ref(0), ref(1)), arr(ref(1), ref(0), ref(2)))
	wantShow(t, h, list(ref(0)), "@0{1 @1[@2[@0 @2] @0 @1] @2}")
	wantShow(t, h, list(ref(1), ref(2)), "@0[@1{1 @2[@0 @1 @2] @0} @0] @2")
}

func TestShowNothing(t *testing.T) { // P3.3
	h := laid(rec(0))
	wantShow(t, h, nil, "")
	wantShow(t, h, []api.Value{}, "")
	wantShow(t, h, list(num(5), ref(0))[:1], "5")
	for _, h := range empties() {
		wantShow(t, h, nil, "")
		wantShow(t, h, list(num(5), null, ref(0), null), "5 null ? null")
	}
}

func TestShowOddValues(t *testing.T) { // P3.3
	h := laid(rec(0))
	for _, v := range odds(1) {
		wantShow(t, h, list(v), "?")
		wantShow(t, h, list(ref(0), v, ref(0)), "@0{0} ? @0")
		wantShow(t, laid(rec(1, v, v)), list(ref(0)), "@0{1 ? ?}")
		wantShow(t, laid(arr(num(1), v)), list(ref(0)), "@0[1 ?]")
	}
	for _, h := range empties() {
		for _, v := range odds(0) {
			wantShow(t, h, list(v), "?")
		}
	}
}

// The places that are told are those of Reach, and each thing is told whole once.
func TestShownPlaces(t *testing.T) { // P3.2, P3.3
	h := laid(arr(), rec(0, num(9), ref(4), ref(0)), rec(1, ref(2), ref(1)), arr(ref(1), ref(2), null), arr(ref(3)))
	reach := Reach(h, list(ref(3), ref(0)))
	if !slices.Equal(reach, []int64{3, 1, 4, 0, 2}) {
		t.Fatal(reach)
	}
	wantShow(t, h, list(ref(3), ref(0)), "@0[@1{0 9 @2[@0] @3[]} @4{1 @4 @1} null] @3")
	for n := range int64(5) {
		want := "@" + strconv.Itoa(slices.Index(reach, n))
		got := Show(h, list(ref(3), ref(0), ref(n)))
		if !strings.HasSuffix(got, " "+want) {
			t.Fatal(n, got)
		}
	}
}

// row is a heap with so many things, all of which its last one reaches at once, and that one.
func row(things int) (*heap.Heap, []api.Value) {
	h := heap.New(0)
	var cells []api.Value
	for range things - 1 {
		cells = append(cells, h.Lay(0, nil))
	}
	return h, list(h.Lay(-1, cells))
}

// chain is a heap with so many things, each of which reaches the next by its first cell, and the first one; side says whether a number stands behind that cell.
func chain(things int64, side bool) (*heap.Heap, []api.Value) {
	h := heap.New(0)
	for i := range things {
		next := ref(i + 1)
		if i == things-1 {
			next = null
		}
		if side {
			h.Lay(2, list(next, num(i)))
		} else {
			h.Lay(2, list(next))
		}
	}
	return h, list(ref(0))
}

func TestShowLimit(t *testing.T) { // P3.3
	h, l := row(100000)
	text := Show(h, l)
	if !strings.HasPrefix(text, "@0[@1{0} @2{0} ") || !strings.HasSuffix(text, " @99999{0}]") || strings.Count(text, "@") != 100000 {
		t.Fatal("the most things aren't shown", len(text))
	}
	// Neither what is met again nor what isn't reached counts.
	h.Lay(0, nil)
	if again := Show(h, append(l, l[0], ref(0), num(7), null, ref(-1))); again != text+" @0 @1 7 null ?" {
		t.Fatal("what is met again counts", len(again))
	}
	wantShow(t, h, append(l, ref(100000)), "")
	wantShow(t, h, append(list(num(5), ref(100000)), l...), "")
	h, l = row(100001)
	wantShow(t, h, l, "")
	wantShow(t, h, list(ref(0)), "@0{0}")
	if n := len(Reach(h, l)); n != 100001 {
		t.Fatal(n, "things are reached")
	}
}

func TestShowDeep(t *testing.T) { // P3.3
	h, l := chain(100000, true)
	var want strings.Builder
	for i := range 100000 {
		want.WriteString("@" + strconv.Itoa(i) + "{2 ")
	}
	want.WriteString("null")
	for i := range 100000 {
		want.WriteString(" " + strconv.Itoa(99999-i) + "}")
	}
	if text := Show(h, l); text != want.String() {
		t.Fatal("a deep chain isn't shown", len(text))
	}
	h, l = chain(100001, true)
	wantShow(t, h, l, "")
}

func TestVeryDeep(t *testing.T) { // P3.1, P3.2
	const deep = 300000
	for _, side := range []bool{false, true} {
		a, x := chain(deep, side)
		b, y := chain(deep, side)
		reach := Reach(a, x)
		if len(reach) != deep {
			t.Fatal(len(reach), "things are reached")
		}
		for i, n := range reach {
			if n != int64(i) {
				t.Fatal(n, "is reached at place", i)
			}
		}
		wantSame(t, a, x, b, y, true)
		wantSame(t, a, x, b, list(ref(1)), false)
		if b.SetField(ref(deep-1), 2, 0, ref(0)) != 0 {
			t.Fatal("nothing is laid")
		}
		wantSame(t, a, x, b, y, false)
		if a.SetField(ref(deep-1), 2, 0, ref(0)) != 0 {
			t.Fatal("nothing is laid")
		}
		wantSame(t, a, x, b, y, true)
		if a.SetField(ref(deep-1), 2, 0, ref(1)) != 0 {
			t.Fatal("nothing is laid")
		}
		wantSame(t, a, x, b, y, false)
	}
}

// draw is numbers that look thrown, the same ones for each seed.
type draw uint64

func (d *draw) below(n int) int {
	*d = *d*6364136223846793005 + 1442695040888963407
	return int(uint64(*d) >> 33 % uint64(n))
}

// thrown is a small heap and a list of values of it, without odd values.
func thrown(d *draw) (*heap.Heap, []api.Value) {
	things := 1 + d.below(4)
	value := func() api.Value {
		switch d.below(5) {
		case 0:
			return num(int64(d.below(2)))
		case 1:
			return null
		}
		return ref(int64(d.below(things)))
	}
	values := func() []api.Value {
		var l []api.Value
		for range d.below(3) {
			l = append(l, value())
		}
		return l
	}
	h := heap.New(0)
	for range things {
		h.Lay(d.below(2)-1, values())
	}
	return h, append(values(), value())
}

// shuffled is what is reached from l, laid into a new heap in another order.
func shuffled(d *draw, h *heap.Heap, l []api.Value) (*heap.Heap, []api.Value) {
	order := Reach(h, l)
	for i := range order {
		j := i + d.below(len(order)-i)
		order[i], order[j] = order[j], order[i]
	}
	moved := func(l []api.Value) []api.Value {
		l = slices.Clone(l)
		for i, v := range l {
			if v.Kind == api.Ref {
				l[i] = ref(int64(slices.Index(order, v.N)))
			}
		}
		return l
	}
	g := heap.New(0)
	for _, n := range order {
		o, _ := h.Obj(ref(n))
		g.Lay(o.Rec, moved(o.Cells))
	}
	return g, moved(l)
}

func TestSameIsShownAlike(t *testing.T) { // P3.4
	d := draw(1)
	alike := 0
	for range 30000 {
		a, x := thrown(&d)
		b, y := thrown(&d)
		same := Show(a, x) == Show(b, y)
		if same {
			alike++
		}
		wantSame(t, a, x, b, y, same)
		wantSame(t, a, x, a, x, true)
		c, z := shuffled(&d, a, x)
		wantSame(t, a, x, c, z, true)
		wantSame(t, c, z, b, y, same)
		if Show(a, x) != Show(c, z) {
			t.Fatal(Show(a, x), Show(c, z))
		}
	}
	if alike < 100 || alike > 20000 {
		t.Fatal("the heaps that are thrown don't tell much", alike)
	}
}
