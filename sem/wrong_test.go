package sem

import (
	"math"
	"math/rand"
	"slices"
	"testing"

	"swath/api"
	"swath/check"
	"swath/heap"
	"swath/iso"
	"swath/parse"
)

// wantRefused wants of a list check.Program's error, which must be e, with nothing beside it.
func wantRefused(t *testing.T, l []api.Node, e api.Errno) {
	t.Helper()
	if _, _, checked := check.Program(l); checked != e {
		t.Fatalf("check.Program is %d; wanted %d of %.300v", checked, e, l)
	}
	r, h, got := Run(l, []int64{1}, []int64{2}, wide)
	if got != e || h != nil || !sameResults(r, api.Result{}) {
		t.Errorf("%v, %v, %d; wanted %d of %.300v", r, h, got, e, l)
	}
}

func TestDescriptionsThatAreNotTaken(t *testing.T) { // P9.1
	for _, x := range []struct {
		s string
		e api.Errno
	}{
		{"", api.ErrMain}, {"fn f() { }", api.ErrMain}, {"fn main(a) { }", api.ErrMain}, {"fn main() { } fn main() { }", api.ErrScope}, {"rec P {} rec P {} fn main() { }", api.ErrScope},
		{"fn main() { return v; }", api.ErrScope}, {"fn main() { v = 1; }", api.ErrScope}, {"fn main() { let v = 1; let v = 2; }", api.ErrScope}, {"fn main() { f(); }", api.ErrScope},
		{"fn main() { return new P; }", api.ErrScope}, {"fn main() { return null.x; }", api.ErrScope}, {"fn main() { main(1); }", api.ErrArity}, {"fn main() { return f(); } fn f(a) { }", api.ErrArity},
		{"fn main() { out 1; merge(); }", api.ErrHint}, {"fn main() { if 1 { merge(); } }", api.ErrHint}, {"fn main() { while 1 { out 1; merge(); } }", api.ErrHint},
		// Nothing is run, though what is wrong would never be come to.
		{"fn main() { out 1; stop 2; return v; }", api.ErrScope}, {"fn main() { return 1; } fn f() { main(2); }", api.ErrArity},
	} {
		l, _, e := parse.Program(x.s)
		if e != api.OK {
			t.Fatal(x.s, e)
		}
		wantRefused(t, l, x.e)
	}
}

func TestListsThatAreNoTrees(t *testing.T) { // P9.1, P1, P3
	wantRefused(t, nil, api.ErrTree)
	wantRefused(t, []api.Node{}, api.ErrTree)
	wantRefused(t, make([]api.Node, api.MaxNodes+1), api.ErrLong)
	wantRefused(t, []api.Node{{Kind: api.NodeProgram}}, api.ErrMain)
	right := func() []api.Node { return nodes(t, "fn main() { return 1; }") }
	for i := range right() {
		for _, x := range []struct {
			change func(n *api.Node)
			e      api.Errno
		}{
			{func(n *api.Node) { n.Kind = 31 }, api.ErrTree}, {func(n *api.Node) { n.Kind = -1 }, api.ErrTree}, {func(n *api.Node) { n.At = -1 }, api.ErrTree},
			{func(n *api.Node) { n.Kids = []int{math.MaxInt} }, api.ErrTree}, {func(n *api.Node) { n.Kids = []int{-1} }, api.ErrTree}, {func(n *api.Node) { n.Text = "?" }, api.ErrText},
		} {
			l := right()
			x.change(&l[i])
			wantRefused(t, l, x.e)
		}
	}
	l := right()
	l[1].Kids = nil
	wantRefused(t, l, api.ErrKids)
	deep := []api.Node{{Kind: api.NodeNull}}
	for i := range api.MaxDeep {
		deep = append(deep, api.Node{Kind: api.NodePromote, Kids: []int{i}})
	}
	n := len(deep)
	deep = append(deep, api.Node{Kind: api.NodeReturn, Kids: []int{n - 1}}, api.Node{Kind: api.NodeBlock, Kids: []int{n}}, api.Node{Kind: api.NodeFn, Text: "main", Kids: []int{n + 1}}, api.Node{Kind: api.NodeProgram, Kids: []int{n + 2}})
	wantRefused(t, deep, api.ErrDeep)
}

func TestListsOfAnything(t *testing.T) { // P1
	chance := rand.New(rand.NewSource(91))
	limits := []int{math.MinInt, -1, 0, 1, 5, 100}
	for range 20000 {
		l := make([]api.Node, chance.Intn(7))
		for i := range l {
			l[i] = api.Node{Kind: chance.Intn(36) - 2, Text: []string{"", "x", "5", "+", "let", "main"}[chance.Intn(6)], At: chance.Intn(4) - 1}
			for range chance.Intn(4) {
				l[i].Kids = append(l[i].Kids, chance.Intn(10)-2)
			}
		}
		lim := api.Limits{Fuel: limits[chance.Intn(6)], Depth: limits[chance.Intn(6)], Cells: limits[chance.Intn(6)]}
		_, _, e := check.Program(l)
		if r, h, got := Run(l, nil, nil, lim); got != e || (h == nil) != (e != api.OK) || e != api.OK && !sameResults(r, api.Result{}) {
			t.Fatal(l, r, h, got, e)
		}
	}
}

// scattered is a tree whose nodes stand in another order, kids still ahead of those that have them.
func scattered(chance *rand.Rand, l []api.Node) []api.Node {
	var order []int
	placed := make([]int, len(l))
	for len(order) < len(l) {
		var ready []int
		for n, node := range l {
			is := placed[n] == 0
			for _, k := range node.Kids {
				is = is && placed[k] > 0
			}
			if is && (n < len(l)-1 || len(order) == len(l)-1) {
				ready = append(ready, n)
			}
		}
		n := ready[chance.Intn(len(ready))]
		order = append(order, n)
		placed[n] = len(order)
	}
	var other []api.Node
	for _, n := range order {
		node := l[n]
		node.Kids, node.At = nil, chance.Intn(9)
		for _, k := range l[n].Kids {
			node.Kids = append(node.Kids, placed[k]-1)
		}
		other = append(other, node)
	}
	return other
}

func TestTreesInAnotherOrder(t *testing.T) { // P9.1
	chance := rand.New(rand.NewSource(92))
	s := sorts + "fn main() { let n = 4; while n { merge(n); root = g(root, put(n, in())); n = n - 1; } return f(5); } fn f(n) { if n < 2 { return n; } return f(n - 1) * 10 - f(n - 2); } fn g(a, b) { let p = new P; p.x = a; p.y = b; return p; }" + put
	l := nodes(t, s)
	r, h := done(t, s, nil, []int64{3, 4}, wide)
	for range 30 {
		other := scattered(chance, l)
		q, g, e := Run(other, nil, []int64{3, 4}, wide)
		if e != api.OK || !sameResults(r, q) || told(r, h) != told(q, g) {
			t.Fatal(e, r, q)
		}
	}
}

// guarded is a list with room behind it that nobody may write to, nor read.
func guarded(l []int64, behind int64) []int64 {
	return append(slices.Clone(l), behind, behind, behind)[:len(l)]
}

const shared = sorts + "fn main() { root = arr(3); let n = 0; while n < 3 { merge(n); root[n] = new P; root[n].x = in(); root[n].y = img(n); out root[n].x + promote(root[n].y); n = n + 1; } return in(); }"

func TestArgumentsAreNotChanged(t *testing.T) { // P2
	l := nodes(t, shared)
	before := nodes(t, shared)
	behind := append(slices.Clone(l), api.Node{Kind: 77}, api.Node{Kind: 78})[:len(l)]
	image, input := guarded([]int64{4, 5, 6}, 66), guarded([]int64{1, 2, 3}, 77)
	r, h, e := Run(behind, image, input, wide)
	if got := told(r, h); e != api.OK || got != "halt null @0[@1{0 1 4} @2{0 2 5} @3{0 3 6}] out 5 7 9 read 3 steps 22 cells 13" {
		t.Fatal(got, e)
	}
	if !slices.Equal(image[:6], []int64{4, 5, 6, 66, 66, 66}) || !slices.Equal(input[:6], []int64{1, 2, 3, 77, 77, 77}) {
		t.Error(image[:6], input[:6])
	}
	alike := func(a, b api.Node) bool {
		return a.Kind == b.Kind && a.Text == b.Text && a.At == b.At && slices.Equal(a.Kids, b.Kids)
	}
	if !slices.EqualFunc(l, before, alike) || !slices.EqualFunc(behind, before, alike) || behind[:len(l)+1][len(l)].Kind != 77 {
		t.Error("the tree is changed")
	}
}

func TestAnswersShareNothing(t *testing.T) { // P2, P3
	l := nodes(t, shared)
	image, input := []int64{4, 5, 6}, []int64{1, 2, 3}
	r, h, _ := Run(l, image, input, wide)
	again, g, _ := Run(l, image, input, wide)
	if h == g || !sameResults(r, again) || !Same(r, h, again, g) {
		t.Fatal(r, again)
	}
	text := iso.Show(g, []api.Value{g.Root()})
	// What is done to the one answer, and to the arguments, is not seen in the other.
	for i := range r.Out {
		r.Out[i] = -9
	}
	_ = append(r.Out, -9)
	clear(image)
	clear(input)
	for i := range l {
		clear(l[i].Kids)
	}
	clear(l)
	first, _ := h.Elem(h.Root(), num(0))
	h.SetField(first, 0, 0, num(-9))
	h.SetRoot(null)
	if !slices.Equal(again.Out, []int64{5, 7, 9}) || iso.Show(g, []api.Value{g.Root()}) != text {
		t.Error(again.Out, iso.Show(g, []api.Value{g.Root()}))
	}
	// The heap is one to go on with, up to the cells that there are.
	v, trap := g.Arr(num(int64(wide.Cells - again.Cells - 1)))
	if trap != 0 || v.Kind != api.Ref || g.Used() != wide.Cells || again.Cells == wide.Cells {
		t.Error(v, trap, g.Used())
	}
	if _, trap := g.Rec(0, 0); trap != api.TrapCells {
		t.Error(trap)
	}
}

func TestNoneAndEmpty(t *testing.T) { // P3
	for _, image := range [][]int64{nil, {}} {
		for _, input := range [][]int64{nil, {}} {
			want(t, "fn main() { out size(); out in() == null; }", image, input, wide, "halt 0 out 0 1 steps 2")
		}
	}
	l := nodes(t, "fn main() { return 5; }")
	for i := range l {
		if l[i].Kids == nil {
			l[i].Kids = []int{}
		}
	}
	if r, _, e := Run(l, nil, nil, wide); e != api.OK || r.Value != num(5) || len(r.Out) > 0 {
		t.Error(r, e)
	}
}

// TestRunsAtOnce has several runs of one tree at a time, which share nothing that is written.
func TestRunsAtOnce(t *testing.T) { // P3
	l := nodes(t, shared)
	image, input := []int64{4, 5, 6}, []int64{1, 2, 3}
	type answer struct {
		r api.Result
		h *heap.Heap
	}
	answers := make(chan answer)
	for range 8 {
		go func() {
			r, h, _ := Run(l, image, input, wide)
			answers <- answer{r, h}
		}()
	}
	r, h, _ := Run(l, image, input, wide)
	for range 8 {
		if a := <-answers; !sameResults(a.r, r) || !Same(a.r, a.h, r, h) {
			t.Error(a.r, r)
		}
	}
}
