package lower

import (
	"math"
	"math/rand"
	"slices"
	"testing"

	"swath/api"
	"swath/check"
	"swath/ir"
)

// sample is a description with something of each kind.
const sample = `rec P {x, y} rec Q {z} fn f(a, b) { let c = a * 2; while c < b { merge(a, c); c = c + promote(a); if c == 3 { return null; } else { out c; } } return f(b, c)[0]; }
fn main() { let p = new P; p.x = arr(3); p.x[1] = -in(); root = p; f(img(size() - 1), len(root.x)); while !p.y { merge(p); p.y = ~f(1, 2); stop p; } }`

// codeCopied is code in memory of its own.
func codeCopied(c api.Code) api.Code {
	c.Funcs = slices.Clone(c.Funcs)
	for f := range c.Funcs {
		c.Funcs[f].Code = slices.Clone(c.Funcs[f].Code)
		for i := range c.Funcs[f].Code {
			c.Funcs[f].Code[i].L = slices.Clone(c.Funcs[f].Code[i].L)
		}
	}
	return c
}

func fill[T any](l []T, v T) {
	l = l[:cap(l)]
	for i := range l {
		l[i] = v
	}
}

// overwrite writes over all that code holds, and behind its lists as far as there is room.
func overwrite(c api.Code) {
	for _, f := range c.Funcs {
		for _, i := range f.Code {
			fill(i.L, -9)
		}
		fill(f.Code, api.Ins{Op: -9})
	}
	fill(c.Funcs, api.Func{Name: "?"})
}

// wantUntouched wants Code to change nothing that it is given and to answer the same again, of an equal list too, whatever was done to an answer.
func wantUntouched(t *testing.T, l []api.Node) {
	t.Helper()
	before := copied(l)
	c, at, e := Code(l)
	if _, checkedAt, checked := check.Program(l); checked != api.OK && (checked != e || checkedAt != at) || e != api.OK && !isNone(c) || at < 0 {
		t.Fatal(c, at, e, checkedAt, checked)
	}
	for _, other := range [][]api.Node{l, before, l} {
		again, againAt, againError := Code(other)
		if againAt != at || againError != e || !ir.Same(again, c) {
			t.Fatal(at, e, againAt, againError)
		}
		overwrite(again)
	}
	if !sameNodes(l, before) || !slices.EqualFunc(before[len(l):cap(before)], make([]api.Node, 3), func(x, y api.Node) bool { return sameNodes([]api.Node{x}, []api.Node{y}) }) {
		t.Fatalf("%v was %v", l, before)
	}
	for _, n := range before {
		if !slices.Equal(n.Kids[len(n.Kids):cap(n.Kids)], make([]int, cap(n.Kids)-len(n.Kids))) {
			t.Fatal("behind its kids is written", n.Kids[:cap(n.Kids)])
		}
	}
}

func TestSharesNothing(t *testing.T) { // P2
	l := nodes(t, sample)
	wantUntouched(t, l)
	c := made(t, l)
	want := codeCopied(c)
	for i := range l {
		fill(l[i].Kids, -9)
	}
	fill(l, api.Node{})
	if !ir.Same(c, want) {
		t.Error("what was answered changes with the list")
	}
	// No two lists of one answer share any: each is written over in turn, those behind it stay.
	for f := range c.Funcs {
		for i := range c.Funcs[f].Code {
			fill(c.Funcs[f].Code[i].L, -9)
			for j := i + 1; j < len(c.Funcs[f].Code); j++ {
				if !slices.Equal(c.Funcs[f].Code[j].L, want.Funcs[f].Code[j].L) {
					t.Fatal(f, i, j)
				}
			}
		}
		fill(c.Funcs[f].Code, api.Ins{})
		rest := api.Code{Funcs: c.Funcs[f+1:]}
		if !ir.Same(rest, api.Code{Funcs: want.Funcs[f+1:]}) {
			t.Fatal(f)
		}
	}
}

func TestListsThatAreNoTrees(t *testing.T) { // P11.1, P1, P3
	wantRefused(t, nil, 0, api.ErrTree)
	wantRefused(t, []api.Node{}, 0, api.ErrTree)
	wantRefused(t, make([]api.Node, api.MaxNodes+1), 0, api.ErrLong)
	wantRefused(t, []api.Node{{Kind: api.NodeProgram, At: 6}}, 0, api.ErrMain)
	right := func() []api.Node {
		l := nodes(t, "fn main() { return 1; }")
		for i := range l {
			l[i].At = 3*i + 7
		}
		return l
	}
	for i := range right() {
		for _, x := range []struct {
			change func(n *api.Node)
			at     int
			e      api.Errno
		}{
			{func(n *api.Node) { n.Kind = 31 }, 3*i + 7, api.ErrTree}, {func(n *api.Node) { n.Kind = -1 }, 3*i + 7, api.ErrTree}, {func(n *api.Node) { n.At = -1 }, 0, api.ErrTree},
			{func(n *api.Node) { n.Kids = []int{math.MaxInt} }, 3*i + 7, api.ErrTree}, {func(n *api.Node) { n.Kids = []int{-1} }, 3*i + 7, api.ErrTree}, {func(n *api.Node) { n.Text = "?" }, 3*i + 7, api.ErrText},
			{func(n *api.Node) { n.Text, n.At = "?", math.MaxInt }, math.MaxInt, api.ErrText},
		} {
			l := right()
			x.change(&l[i])
			wantRefused(t, l, x.at, x.e)
		}
	}
	l := right()
	l[1].Kids = nil
	wantRefused(t, l, 10, api.ErrKids)
	wantRefused(t, right()[:3], 13, api.ErrTree)
	deep := numPart()
	for range api.MaxDeep {
		deep = of(api.NodePromote, "", deep)
	}
	wantRefused(t, whole(returned(deep)), 0, api.ErrDeep)
}

func TestListsOfAnything(t *testing.T) { // P1, P2
	chance := rand.New(rand.NewSource(111))
	for range 20000 {
		l := make([]api.Node, chance.Intn(7))
		for i := range l {
			l[i] = api.Node{Kind: chance.Intn(36) - 2, Text: []string{"", "x", "5", "+", "let", "main"}[chance.Intn(6)], At: chance.Intn(4) - 1}
			for range chance.Intn(4) {
				l[i].Kids = append(l[i].Kids, []int{chance.Intn(10) - 2, chance.Intn(3), math.MaxInt, math.MinInt}[min(chance.Intn(40), 3)])
			}
		}
		wantUntouched(t, l)
	}
}

// spoilNode changes one thing of one node, which mostly leaves no tree.
func spoilNode(chance *rand.Rand, l []api.Node) {
	n := &l[chance.Intn(len(l))]
	switch chance.Intn(5) {
	case 0:
		n.Kind = chance.Intn(34) - 1
	case 1:
		n.Text = []string{"", "main", "7", "-", "while", "i0", "x", "f"}[chance.Intn(8)]
	case 2:
		n.At = chance.Intn(3) - 1
	case 3:
		n.Kids = append(slices.Clone(n.Kids), chance.Intn(len(l)+2)-1)
	default:
		if len(n.Kids) > 0 {
			n.Kids[chance.Intn(len(n.Kids))] = chance.Intn(len(l)+2) - 1
		}
	}
}

func TestSpoiledTrees(t *testing.T) { // P1, P2, P11.1
	chance := rand.New(rand.NewSource(112))
	times := map[api.Errno]int{}
	for range 3000 {
		w := writer{Rand: chance, hints: true}
		l := nodes(t, w.program())
		for range 1 + chance.Intn(2) {
			spoilNode(chance, l)
		}
		wantUntouched(t, l)
		c, _, e := Code(l)
		times[e]++
		if e == api.OK {
			wantRight(t, l, c)
			wantSame(t, l, c, givenBy(chance))
		}
	}
	for _, e := range []api.Errno{api.OK, api.ErrTree, api.ErrText, api.ErrKids, api.ErrScope} {
		if times[e] < 15 {
			t.Error("error", e, "came", times[e], "times")
		}
	}
}

// scattered is a tree whose nodes stand in another order, kids still ahead of those that have them.
func scattered(chance *rand.Rand, l []api.Node) []api.Node {
	missing, up, number := make([]int, len(l)), make([]int, len(l)), make([]int, len(l))
	var ready []int
	for i, n := range l {
		missing[i] = len(n.Kids)
		for _, k := range n.Kids {
			up[k] = i
		}
		if len(n.Kids) == 0 {
			ready = append(ready, i)
		}
	}
	var all []api.Node
	for len(ready) > 0 {
		x := chance.Intn(len(ready))
		i := ready[x]
		ready = slices.Delete(ready, x, x+1)
		number[i] = len(all)
		n := api.Node{Kind: l[i].Kind, Text: l[i].Text, At: chance.Intn(9)}
		for _, k := range l[i].Kids {
			n.Kids = append(n.Kids, number[k])
		}
		all = append(all, n)
		if missing[up[i]]--; missing[up[i]] == 0 {
			ready = append(ready, up[i])
		}
	}
	return all
}

// TestOrderOfNodes has trees with their nodes in another order and at other places: the code is the same.
func TestOrderOfNodes(t *testing.T) { // P11.1
	chance := rand.New(rand.NewSource(113))
	for range 300 {
		w := writer{Rand: chance, hints: true}
		l := nodes(t, w.program())
		if !ir.Same(made(t, l), made(t, scattered(chance, l))) {
			t.Fatal(l)
		}
	}
}
