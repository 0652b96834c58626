package snap

import (
	"math"
	"slices"
	"testing"

	"swath/api"
	"swath/heap"
)

// wantRebuilt wants of Rebuild what the reckoning says, in a heap with so many things, and that nothing that it is given changes.
func wantRebuilt(t testing.TB, things int, x api.Trace, n int, vars []api.Value) ([]api.Frame, []api.Obj) {
	t.Helper()
	h := heapWith(things)
	frames, e := wantRebuiltIn(t, h, x, n, vars)
	laid := thingsOf(h)[things:]
	_, wantLaid, wantE := rebuilt(things, x, n, vars)
	if e != wantE || len(laid) != len(wantLaid) {
		t.Fatalf("%v with %v laid instead of %v with %v", e, laid, wantE, wantLaid)
	}
	return frames, laid
}

// wantRebuiltIn does so of a heap that there is, on which other things follow.
func wantRebuiltIn(t testing.TB, h *heap.Heap, x api.Trace, n int, vars []api.Value) ([]api.Frame, api.Errno) {
	t.Helper()
	ahead, used, root := thingsOf(h), h.Used(), h.Root()
	before, varsBefore := copiedTrace(x), slices.Clone(vars)
	frames, e := Rebuild(h, x, n, vars)
	want, laid, wantE := rebuilt(len(ahead), x, n, vars)
	if e != wantE {
		t.Errorf("%v instead of %v of link %d of %.500s with %v", e, wantE, n, text(x), vars)
	}
	wantText(t, "the frames", frames, want)
	wantText(t, "the heap's things", thingsOf(h), append(ahead, laid...))
	wantText(t, "the trace", x, before)
	wantText(t, "the variables", vars, varsBefore)
	if h.Used() != used || h.Root() != root {
		t.Error(h.Used(), used, h.Root(), root)
	}
	return frames, e
}

// wantRange wants of Rebuild ErrRange, and nothing laid.
func wantRange(t testing.TB, x api.Trace, n int, vars []api.Value) {
	t.Helper()
	h := heapWith(2)
	if frames, e := Rebuild(h, x, n, vars); e != api.ErrRange || len(frames) != 0 || len(thingsOf(h)) != 2 || h.Used() != 0 {
		t.Errorf("%v, %v, %v of link %d of %.500s with %v", frames, e, thingsOf(h), n, text(x), vars)
	}
	for _, none := range []*heap.Heap{nil, {}} {
		if frames, e := Rebuild(none, x, n, vars); e != api.ErrRange || len(frames) != 0 {
			t.Error(frames, e)
		}
	}
	wantRebuilt(t, 2, x, n, vars)
}

// wantLaid wants things to be laid behind two others, told as the reckoning has them.
func wantLaid(t testing.TB, x api.Trace, n int, vars []api.Value, regs [][]api.Value, things ...api.Obj) {
	t.Helper()
	frames, laid := wantRebuilt(t, 2, x, n, vars)
	var got [][]api.Value
	for _, f := range frames {
		got = append(got, f.Regs)
	}
	wantText(t, "the registers", got, regs)
	wantText(t, "what is laid", laid, things)
}

func obj(rec int, cells ...api.Value) api.Obj { return api.Obj{Rec: rec, Cells: cells} }
func nums(l ...api.Value) []api.Value         { return l }

func TestFrames(t *testing.T) { // P17.3
	x := api.Trace{Links: []api.Link{link(-1, 1, c(7), v(0)), link(0, 2), link(1, 3, v(1), v(0), v(1), con(null)), link(0, 4, c(-1))}}
	vars := nums(num(50), ref(1))
	frame := func(fn int, regs ...api.Value) api.Frame {
		return api.Frame{Fn: fn, Pc: fn + 100, Into: fn + 200, Regs: regs}
	}
	first, second := frame(1, num(7), num(50)), frame(2)
	for n, want := range [][]api.Frame{
		{first}, {first, second}, {first, second, frame(3, ref(1), num(50), ref(1), null)}, {first, frame(4, num(-1))},
	} {
		frames, laid := wantRebuilt(t, 0, x, n, vars)
		wantText(t, "the frames", frames, want)
		if len(laid) != 0 {
			t.Error(laid)
		}
	}
}

// TestFieldsAsTheyAre: Fn, Pc and Into aren't judged.
func TestFieldsAsTheyAre(t *testing.T) { // P17.3
	for _, n := range edges {
		for _, m := range edges {
			x := api.Trace{Links: []api.Link{{Up: -1, Fn: n, Pc: m, Into: m}, {Up: 0, Fn: m, Pc: n, Into: n}}}
			wantRebuilt(t, 0, x, 1, nil)
		}
	}
}

func TestValuesAsTheyAre(t *testing.T) { // P17.3
	for _, one := range values {
		for _, other := range values {
			x := api.Trace{Links: []api.Link{plain(-1, con(one), v(0), w(0))}, Virts: []api.Virt{virt(0, v(0), con(one))}}
			wantLaid(t, x, 0, nums(other), [][]api.Value{{one, other, ref(2)}}, obj(0, other, one))
		}
	}
}

// TestFieldsThatAKindHasNot: of a constant counts Val alone, of others N.
func TestFieldsThatAKindHasNot(t *testing.T) { // P17.3
	for _, n := range edges {
		odd := api.Value{Kind: n, N: int64(n)}
		regs := list(api.Src{Val: num(5), N: n}, api.Src{Kind: api.SrcVar, Val: odd}, api.Src{Kind: api.SrcVirt, Val: odd})
		wantLaid(t, api.Trace{Links: []api.Link{plain(-1, regs...)}, Virts: []api.Virt{virt(3)}}, 0, nums(num(6)), [][]api.Value{{num(5), num(6), ref(2)}}, obj(3))
	}
}

func TestVirts(t *testing.T) { // P17.3
	vars := nums(num(50), null)
	one := func(l ...api.Src) []api.Link { return []api.Link{plain(-1, l...)} }
	for _, s := range []struct {
		name   string
		trace  api.Trace
		regs   [][]api.Value
		things []api.Obj
	}{
		{"one", api.Trace{Links: one(w(0)), Virts: []api.Virt{virt(4, c(1), v(0), v(1))}}, [][]api.Value{{ref(2)}}, []api.Obj{obj(4, num(1), num(50), null)}},
		{"twice in a frame", api.Trace{Links: one(w(0), w(0)), Virts: []api.Virt{virt(4)}}, [][]api.Value{{ref(2), ref(2)}}, []api.Obj{obj(4)}},
		{"in two frames", api.Trace{Links: []api.Link{plain(-1, w(0)), plain(0, c(1), w(0))}, Virts: []api.Virt{virt(4)}}, [][]api.Value{{ref(2)}, {num(1), ref(2)}}, []api.Obj{obj(4)}},
		{"in another's cells", api.Trace{Links: one(w(0), w(1)), Virts: []api.Virt{virt(4, w(1)), virt(5)}}, [][]api.Value{{ref(2), ref(3)}}, []api.Obj{obj(4, ref(3)), obj(5)}},
		{"in another's cells, but met ahead of it", api.Trace{Links: one(w(1), w(0)), Virts: []api.Virt{virt(4, w(1)), virt(5)}}, [][]api.Value{{ref(2), ref(3)}}, []api.Obj{obj(5), obj(4, ref(2))}},
		{"twice in its cells", api.Trace{Links: one(w(0)), Virts: []api.Virt{virt(4, w(1), w(1)), virt(5)}}, [][]api.Value{{ref(2)}}, []api.Obj{obj(4, ref(3), ref(3)), obj(5)}},
		{"in its own cells", api.Trace{Links: one(w(0)), Virts: []api.Virt{virt(4, w(0), c(1), w(0))}}, [][]api.Value{{ref(2)}}, []api.Obj{obj(4, ref(2), num(1), ref(2))}},
		{"a ring of two", api.Trace{Links: one(w(1)), Virts: []api.Virt{virt(4, w(1)), virt(5, w(0))}}, [][]api.Value{{ref(2)}}, []api.Obj{obj(5, ref(3)), obj(4, ref(2))}},
		{"a ring of three", api.Trace{Links: one(w(2), w(0)), Virts: []api.Virt{virt(4, w(1)), virt(5, w(2)), virt(6, w(0))}}, [][]api.Value{{ref(2), ref(3)}}, []api.Obj{obj(6, ref(3)), obj(4, ref(4)), obj(5, ref(2))}},
		{"alike, but two", api.Trace{Links: one(w(0), w(1)), Virts: []api.Virt{virt(4, c(1)), virt(4, c(1))}}, [][]api.Value{{ref(2), ref(3)}}, []api.Obj{obj(4, num(1)), obj(4, num(1))}},
		{"not reached", api.Trace{Links: one(w(1)), Virts: []api.Virt{virt(4, w(1)), virt(5), virt(6, w(1))}}, [][]api.Value{{ref(2)}}, []api.Obj{obj(5)}},
	} {
		wantLaid(t, s.trace, len(s.trace.Links)-1, vars, s.regs, s.things...)
		if t.Failed() {
			t.Fatal(s.name)
		}
	}
}

// TestOrder: things are laid frame by frame, register by register, a thing ahead of those in its cells, these depth first.
func TestOrder(t *testing.T) { // P17.3
	x := api.Trace{
		Links: []api.Link{plain(-1, w(9), c(1), w(3)), plain(0), plain(1, w(0), w(8), w(9)), plain(1, w(7))},
		Virts: []api.Virt{
			virt(0, w(1), w(5)),
			virt(1, w(2), w(4)),
			virt(2, w(5), w(0)),
			virt(3, w(4)),
			virt(4),
			virt(5, w(6), w(1), w(6)),
			virt(6, w(9)),
			virt(7, w(7)),
			virt(8, w(8), w(0)),
			virt(9, c(5)),
		},
	}
	laid := func(n int) []int {
		_, things := wantRebuilt(t, 3, x, n, nil)
		var l []int
		for _, o := range things {
			l = append(l, o.Rec)
		}
		return l
	}
	for n, want := range [][]int{{9, 3, 4}, {9, 3, 4}, {9, 3, 4, 0, 1, 2, 5, 6, 8}, {9, 3, 4, 7}} {
		if got := laid(n); !slices.Equal(got, want) {
			t.Error(n, got, want)
		}
	}
	// Depth first is told from breadth first, and a cell that is met on the way from one that waits.
	x = api.Trace{Links: []api.Link{plain(-1, w(0), w(3))}, Virts: []api.Virt{virt(0, w(1), w(2)), virt(1, w(3), w(2)), virt(2), virt(3, w(4)), virt(4, w(2))}}
	if got := laid(0); !slices.Equal(got, []int{0, 1, 3, 4, 2}) {
		t.Error(got)
	}
}

func TestOnlyTheChain(t *testing.T) { // P17.3
	x := api.Trace{Links: []api.Link{plain(-1, w(0)), plain(-1, w(1), v(9)), plain(0, w(2)), plain(2, c(3))}, Virts: []api.Virt{virt(0), virt(1, v(9)), virt(2, w(0)), virt(3, w(99), api.Src{Kind: 7})}}
	wantLaid(t, x, 0, nil, [][]api.Value{{ref(2)}}, obj(0))
	wantLaid(t, x, 2, nil, [][]api.Value{{ref(2)}, {ref(3)}}, obj(0), obj(2, ref(2)))
	wantLaid(t, x, 3, nil, [][]api.Value{{ref(2)}, {ref(3)}, {num(3)}}, obj(0), obj(2, ref(2)))
	wantRange(t, x, 1, nil)
	// Nothing else of the trace is looked at.
	x.Key.N, x.Fn, x.Ins, x.Ops, x.Back = 99, -5, []int{-1}, []api.Op{{Op: -1, Snap: 50}}, list(v(77))
	wantLaid(t, x, 0, nil, [][]api.Value{{ref(2)}}, obj(0))
}

func TestSorts(t *testing.T) { // P17.3
	for _, rec := range edges {
		x := api.Trace{Links: []api.Link{plain(-1, w(0))}, Virts: []api.Virt{virt(rec, c(1), w(0), w(1)), virt(rec)}}
		wantLaid(t, x, 0, nil, [][]api.Value{{ref(2)}}, obj(max(rec, -1), num(1), ref(2), ref(3)), obj(max(rec, -1)))
	}
}

// TestNoHeap: such a heap lays nothing, and answers the number 0.
func TestNoHeap(t *testing.T) { // P17.3, P1
	x := api.Trace{Links: []api.Link{plain(-1, c(5), w(0), v(0))}, Virts: []api.Virt{virt(1, w(1), w(0)), virt(-1, w(0))}}
	for _, h := range []*heap.Heap{nil, {}, new(heap.Heap)} {
		frames, e := Rebuild(h, x, 0, nums(null))
		if e != api.OK {
			t.Error(e)
		}
		wantText(t, "the frames", frames, []api.Frame{{Regs: nums(num(5), num(0), null)}})
	}
	// For what is laid no cell is taken: a heap without room is as good.
	h := heap.New(0)
	wantRebuiltIn(t, h, x, 0, nums(null))
	if len(thingsOf(h)) != 2 {
		t.Error(thingsOf(h))
	}
}

func TestOnceMore(t *testing.T) { // P17.3
	x := api.Trace{Links: []api.Link{plain(-1, w(0), w(1))}, Virts: []api.Virt{virt(1, w(1), v(0)), virt(2, w(0))}}
	h := heapWith(3)
	h.SetRoot(ref(1))
	h.Charge(7)
	for n := range 5 {
		frames, _ := wantRebuiltIn(t, h, x, 0, nums(ref(int64(n))))
		wantText(t, "the frames", frames, []api.Frame{{Regs: nums(ref(int64(3+2*n)), ref(int64(4+2*n)))}})
	}
}

// wheres are the places where a trace takes something: a register of the first, of a middle and of the last frame, a cell of a Virt, and of one that is reached by that.
func wheres(s api.Src) []api.Trace {
	var l []api.Trace
	for at := range 5 {
		for _, regs := range [][]api.Src{{s}, {c(1), s}, {s, c(1)}, {w(0), s, w(1)}} {
			x := api.Trace{Links: []api.Link{plain(-1, v(0), w(0)), plain(0, c(1)), plain(1, w(1))}, Virts: []api.Virt{virt(1, w(1)), virt(2, w(2), w(0)), virt(3, c(1))}}
			switch at {
			case 0, 1, 2:
				x.Links[at].Regs = slices.Concat(x.Links[at].Regs, regs)
			case 3, 4:
				x.Virts[at-2].Cells = slices.Concat(x.Virts[at-2].Cells, regs)
			}
			l = append(l, x)
		}
	}
	return l
}

func TestVariables(t *testing.T) { // P17.3
	vars := nums(num(50), num(51), ref(0), null)
	room := append(slices.Clone(vars), num(99), num(98))[:4]
	for n := range vars {
		for _, x := range wheres(v(n)) {
			wantRebuilt(t, 2, x, 2, vars)
			wantRebuilt(t, 2, x, 2, room)
			if n > 0 {
				wantRange(t, x, 2, vars[:n])
			}
		}
	}
	for _, n := range append([]int{4, 5, 6}, edges...) {
		for _, x := range wheres(v(n)) {
			if n < 0 || n > 3 {
				wantRange(t, x, 2, vars)
				wantRange(t, x, 2, room)
			}
		}
	}
	for _, l := range [][]api.Value{nil, {}} {
		wantRange(t, api.Trace{Links: []api.Link{plain(-1, v(0))}}, 0, l)
		wantRebuilt(t, 0, api.Trace{Links: []api.Link{plain(-1, c(0))}}, 0, l)
	}
}

func TestNoSuchVirt(t *testing.T) { // P17.3
	for _, n := range append([]int{3, 4, 5}, edges...) {
		for _, x := range wheres(w(n)) {
			if n >= 0 && n < 3 {
				wantRebuilt(t, 2, x, 2, nums(num(5)))
				continue
			}
			wantRange(t, x, 2, nums(num(5)))
			// What lies behind the list is none.
			x.Virts = append(slices.Clone(x.Virts), virt(9), virt(9), virt(9))[:3]
			wantRange(t, x, 2, nums(num(5)))
		}
	}
	wantRange(t, api.Trace{Links: []api.Link{plain(-1, w(0))}}, 0, nil)
}

func TestNoSuchKind(t *testing.T) { // P17.3
	for _, kind := range noKinds {
		for _, x := range wheres(api.Src{Kind: kind}) {
			wantRange(t, x, 2, nums(num(5)))
		}
		for _, x := range wheres(api.Src{Kind: kind, N: 1}) {
			wantRange(t, x, 2, nums(num(5), num(6)))
		}
	}
}

func TestNoChain(t *testing.T) { // P17.3
	good := api.Trace{Links: []api.Link{plain(-1, w(0)), plain(0, v(0)), plain(1, c(3))}, Virts: []api.Virt{virt(1)}}
	vars := nums(num(5))
	for _, n := range append([]int{3, 4, -3}, edges...) {
		if n < 0 || n > 2 {
			wantRange(t, good, n, vars)
		}
		wantRange(t, api.Trace{Virts: good.Virts}, n, vars)
	}
	room := copiedTrace(good)
	room.Links = append(room.Links, plain(-1), plain(-1))[:3]
	wantRange(t, room, 3, vars)
	for at := range 3 {
		for _, up := range append([]int{-2, at, at + 1, 3, 4}, edges...) {
			x := copiedTrace(good)
			x.Links[at].Up = up
			for n := range 3 {
				if n >= at && (up < -1 || up >= at) {
					wantRange(t, x, n, vars)
				} else {
					wantRebuilt(t, 2, x, n, vars)
				}
			}
		}
	}
}

// TestNothingIsLaid: with an error nothing is laid, also if what is wrong comes last of all.
func TestNothingIsLaid(t *testing.T) { // P17.3, P4
	for _, wrong := range []api.Src{v(1), v(-1), w(2), w(-1), {Kind: 3}, {Kind: -1}} {
		x := api.Trace{Links: []api.Link{plain(-1, w(0), v(0)), plain(0, w(1), wrong)}, Virts: []api.Virt{virt(1, w(1)), virt(2)}}
		wantRange(t, x, 1, nums(num(5)))
		wantLaid(t, x, 0, nums(num(5)), [][]api.Value{{ref(2), num(5)}}, obj(1, ref(3)), obj(2))
		x = api.Trace{Links: []api.Link{plain(-1, w(0))}, Virts: []api.Virt{virt(1, c(1), w(1)), virt(2, w(0), wrong)}}
		wantRange(t, x, 0, nums(num(5)))
	}
}

// TestDeepVirts: things deep within one another, and a chain of many frames.
func TestDeepVirts(t *testing.T) { // P17.3, P1
	const many = 300000
	for _, rec := range []int{0, -1} {
		x := api.Trace{Links: make([]api.Link, 1000), Virts: make([]api.Virt, many)}
		for n := range x.Links {
			x.Links[n] = plain(n-1, w(n%3))
		}
		for n := range x.Virts {
			x.Virts[n] = virt(rec, w((n+1)%many), c(int64(n)))
		}
		h := heapWith(1)
		frames, e := Rebuild(h, x, 999, nil)
		if e != api.OK || len(frames) != 1000 {
			t.Fatal(e, len(frames))
		}
		for n, f := range frames {
			if f.Regs[0] != ref(int64(1+n%3)) {
				t.Fatal(n, f)
			}
		}
		things := thingsOf(h)
		for n, o := range things[1:] {
			if o.Rec != rec || o.Cells[0] != ref(int64((n+1)%many+1)) || o.Cells[1] != num(int64(n)) {
				t.Fatal(n, o)
			}
		}
		if len(things) != many+1 {
			t.Error(len(things))
		}
		x.Virts[many-1].Cells[1] = v(math.MaxInt)
		if frames, e := Rebuild(h, x, 999, nil); e != api.ErrRange || frames != nil || len(thingsOf(h)) != many+1 {
			t.Error(e, len(frames))
		}
	}
}

// TestManyCells: more than heap.Rec would take.
func TestManyCells(t *testing.T) { // P17.3
	x := api.Trace{Links: []api.Link{plain(-1, w(0))}, Virts: []api.Virt{virt(0, slices.Repeat(list(w(0), c(3), w(1)), 2000)...), virt(-1, slices.Repeat(list(w(1), v(0)), 2000)...)}}
	wantRebuilt(t, 1, x, 0, nums(num(8)))
}
