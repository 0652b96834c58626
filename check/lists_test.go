package check

import (
	"math"
	"math/rand"
	"slices"
	"testing"

	"swath/api"
	"swath/tree"
)

// wantNoTree wants of both calls tree.Check's error, which must be e, of Program at a place; no description, no list.
func wantNoTree(t *testing.T, l []api.Node, at int, e api.Errno) {
	t.Helper()
	if _, got := tree.Check(l); got != e {
		t.Errorf("tree.Check is %d; wanted %d of %.300v", got, e, l)
	}
	if d, gotAt, got := Program(l); gotAt != at || got != e || !noDesc(d) {
		t.Errorf("Program is %v, %d, %d; wanted %d, %d of %.300v", d, gotAt, got, at, e, l)
	}
	if bare, got := Bare(l); len(bare) > 0 || got != e {
		t.Errorf("Bare is %.300v, %d; wanted %d of %.300v", bare, got, e, l)
	}
}

func TestNodesThatAreWrong(t *testing.T) { // P8.1, P8.3
	// 0 a number, 1 a return of it, 2 a block, 3 main, 4 the program: at 7, 10, 13, 16, 19.
	right := func() []api.Node { return list(program(returned(num("1")))) }
	if _, at, e := Program(right()); at != 0 || e != api.OK {
		t.Error(at, e)
	}
	spoiled := func(n int, change func(*api.Node)) []api.Node {
		l := right()
		change(&l[n])
		return l
	}
	for n := range right() {
		at := 3*n + 7
		wantNoTree(t, spoiled(n, func(n *api.Node) { n.Kind = 0 }), at, api.ErrTree)
		wantNoTree(t, spoiled(n, func(n *api.Node) { n.Kind = 31 }), at, api.ErrTree)
		wantNoTree(t, spoiled(n, func(n *api.Node) { n.Kids = []int{-1} }), at, api.ErrTree)
		wantNoTree(t, spoiled(n, func(n *api.Node) { n.Kids = []int{math.MaxInt} }), at, api.ErrTree)
		wantNoTree(t, spoiled(n, func(n *api.Node) { n.Text += "?" }), at, api.ErrText)
		wantNoTree(t, spoiled(n, func(n *api.Node) { n.Kind, n.At = -5, 0 }), 0, api.ErrTree)
		wantNoTree(t, spoiled(n, func(n *api.Node) { n.Text, n.At = "?", math.MaxInt }), math.MaxInt, api.ErrText)
		// A place that is below 0 is none to tell.
		for _, below := range []int{-1, -2, math.MinInt} {
			wantNoTree(t, spoiled(n, func(n *api.Node) { n.At = below }), 0, api.ErrTree)
		}
	}
	wantNoTree(t, spoiled(1, func(n *api.Node) { n.Kids = nil }), 10, api.ErrKids)
	wantNoTree(t, spoiled(3, func(n *api.Node) { n.Kids = nil }), 16, api.ErrKids)
	// The last node, where it isn't the one program, or another is nobody's kid.
	wantNoTree(t, right()[:4], 16, api.ErrTree)
	wantNoTree(t, append(right(), api.Node{Kind: api.NodeProgram, At: 33}), 33, api.ErrTree)
	wantNoTree(t, []api.Node{{Kind: api.NodeNull, At: 5}, {Kind: api.NodeProgram, At: 6}}, 6, api.ErrTree)
	wantNoTree(t, []api.Node{{Kind: api.NodeNone, At: 5}, {Kind: api.NodeProgram, Kids: []int{0}, At: 6}}, 6, api.ErrKids)
	// Where there is no node there is no place.
	wantNoTree(t, nil, 0, api.ErrTree)
	wantNoTree(t, []api.Node{}, 0, api.ErrTree)
	wantNoTree(t, right()[:0], 0, api.ErrTree)
}

// TestListsThatAreWrong has lists of which no single node is wrong, so that none has a place to tell.
func TestListsThatAreWrong(t *testing.T) { // P8.1, P8.3
	var kids []*part
	for range api.MaxNodes {
		kids = append(kids, of(api.NodeRec, "P"))
	}
	wantNoTree(t, list(of(api.NodeProgram, "", kids...)), 0, api.ErrLong)
	wantNoTree(t, make([]api.Node, api.MaxNodes+1), 0, api.ErrLong)
	wantList(t, list(of(api.NodeProgram, "", kids[1:]...)), 0, api.ErrLong)
	deep := num("1")
	for range api.MaxDeep - 4 {
		deep = promote(deep)
	}
	wantNoTree(t, list(program(returned(deep))), 0, api.ErrDeep)
	// That it is no tree is named ahead of all else.
	wantNoTree(t, list(of(api.NodeProgram, "x", of(api.NodeRec, "P"), of(api.NodeRec, "P"))), 13, api.ErrText)
	// Without hints it would be one, but it is asked as it is.
	l := list(program(of(api.NodeMerge, "", num("1"))))
	wantNoTree(t, l, 10, api.ErrKids)
}

// TestPlacesOfNodes has faults at places that no text has.
func TestPlacesOfNodes(t *testing.T) { // P8.1
	l := list(program(returned(name("v"))))
	for _, at := range []int{0, 1, 500000, math.MaxInt} {
		l[0].At = at
		wantList(t, l, at, api.ErrScope)
	}
	// All at one place.
	for i := range l {
		l[i].At = 77
	}
	wantList(t, l, 77, api.ErrScope)
	wantList(t, []api.Node{{Kind: api.NodeProgram, At: 77}}, 0, api.ErrMain)
}

// wantUntouched wants no call to change its arguments or to share them, whatever the list; the answers to be the same again, of an equal list too.
func wantUntouched(t *testing.T, l []api.Node) api.Errno {
	t.Helper()
	before := copied(l)
	d, at, e := Program(l)
	bare, bareError := Bare(l)
	if _, checked := tree.Check(l); checked != bareError || checked != api.OK && e != checked {
		t.Fatal(checked, bareError, e)
	}
	for _, other := range [][]api.Node{l, before} {
		otherDesc, otherAt, otherError := Program(other)
		otherBare, otherBareError := Bare(other)
		if otherAt != at || otherError != e || otherBareError != bareError || !sameDescs(otherDesc, d) || !sameNodes(otherBare, bare) {
			t.Fatal(d, at, e, otherDesc, otherAt, otherError)
		}
		// What is done to an answer is nobody else's to see.
		overwrite(otherDesc, otherBare)
	}
	if again, _, _ := Program(l); !sameDescs(again, d) || !sameNodes(l, before) {
		t.Fatalf("%v was %v", l, before)
	}
	if !sameNodes(before[len(l):cap(before)], make([]api.Node, 3)) {
		t.Fatal("behind the list is written")
	}
	for _, n := range before {
		if !slices.Equal(n.Kids[len(n.Kids):cap(n.Kids)], make([]int, cap(n.Kids)-len(n.Kids))) {
			t.Fatal("behind its kids is written", n.Kids[:cap(n.Kids)])
		}
	}
	return e
}

// overwrite writes over all that answers hold, and behind their lists as far as there is room.
func overwrite(d api.Desc, bare []api.Node) {
	for _, s := range d.Sorts {
		fill(s.Fields, "?")
	}
	for _, f := range d.Fns {
		fill(f.Vars, "?")
	}
	fill(d.Merges, -9)
	for _, n := range bare {
		fill(n.Kids, -9)
	}
	fill(d.Sorts, api.Sort{})
	fill(d.Fns, api.Fn{})
	fill(bare, api.Node{})
}

func fill[T any](l []T, v T) {
	l = l[:cap(l)]
	for i := range l {
		l[i] = v
	}
}

func TestListsOfAnything(t *testing.T) { // P1, P2
	chance := rand.New(rand.NewSource(83))
	for range 20000 {
		l := make([]api.Node, chance.Intn(6))
		for i := range l {
			l[i] = api.Node{Kind: chance.Intn(36) - 2, Text: []string{"", "x", "5", "+", "let", "main"}[chance.Intn(6)], At: chance.Intn(4) - 1}
			for range chance.Intn(4) {
				l[i].Kids = append(l[i].Kids, chance.Intn(10)-2)
			}
		}
		wantUntouched(t, l)
	}
}

// spoilNode changes one thing of one node, which mostly leaves no tree.
func spoilNode(chance *rand.Rand, l []api.Node) {
	n := &l[chance.Intn(len(l))]
	switch chance.Intn(5) {
	case 0:
		n.Kind = chance.Intn(34) - 1
	case 1:
		n.Text = []string{"", "main", "7", "-", "while"}[chance.Intn(5)]
	case 2:
		n.At = chance.Intn(3) - 1
	case 3:
		n.Kids = append(slices.Clone(n.Kids), chance.Intn(len(l)+2)-1)
	default:
		if len(n.Kids) > 0 {
			n.Kids[chance.Intn(len(n.Kids))] = chance.Intn(len(l)+2) - 1
		}
	}
}

func TestSpoiledTrees(t *testing.T) { // P1, P2, P8.1
	chance := rand.New(rand.NewSource(84))
	times := map[api.Errno]int{}
	for i := range 12000 {
		m := maker{Rand: chance}
		p := m.program()
		if i%2 == 0 {
			spoil(chance, p)
		}
		l := list(p)
		if i%3 > 0 {
			spoilNode(chance, l)
		}
		n, checked := tree.Check(l)
		e := wantUntouched(t, l)
		times[e]++
		if checked == api.OK {
			wantModel(t, l)
			continue
		}
		// None of these lists is too long or too deep or empty, so a node is told.
		wantNoTree(t, l, max(0, l[n].At), checked)
	}
	for _, e := range []api.Errno{api.OK, api.ErrLong, api.ErrTree, api.ErrText, api.ErrKids, api.ErrScope, api.ErrArity, api.ErrHint, api.ErrMain} {
		if times[e] < 15 {
			t.Error("error", e, "came", times[e], "times")
		}
	}
}

func TestAnswersShareNothing(t *testing.T) { // P2
	l := read(t, sample)
	before := copied(l)
	d, _, _ := Program(l)
	want := sampleDesc(t, before)
	bare, _ := Bare(l)
	wantBare := copied(bare)
	for i := range l {
		fill(l[i].Kids, -9)
	}
	fill(l, api.Node{})
	if !sameDescs(d, want) || !sameNodes(bare, wantBare) {
		t.Error("what was answered changes with the list")
	}
	// No two lists of one answer share any: each is written over in turn, the others stay.
	for i := range bare {
		fill(bare[i].Kids, -9)
		for j := i + 1; j < len(bare); j++ {
			if !slices.Equal(bare[j].Kids, wantBare[j].Kids) {
				t.Fatal(i, j)
			}
		}
	}
	for i := range d.Fns {
		fill(d.Fns[i].Vars, "?")
		if !sameFunctions(d.Fns[i+1:], want.Fns[i+1:]) || !sameSorts(d.Sorts, want.Sorts) {
			t.Fatal(i)
		}
	}
	for i := range d.Sorts {
		fill(d.Sorts[i].Fields, "?")
		if !sameSorts(d.Sorts[i+1:], want.Sorts[i+1:]) {
			t.Fatal(i)
		}
	}
}

func TestFieldChangesNothing(t *testing.T) { // P2
	d := wantTaken(t, sample)
	want := wantTaken(t, sample)
	for _, name := range []string{"x", "y", "z", "", "v"} {
		Field(d, name)
	}
	if !sameDescs(d, want) {
		t.Error(d)
	}
}

func FuzzSource(f *testing.F) {
	for _, s := range []string{sample, "fn main() { merge(); }", "rec P {a, a} fn main(a, a) {}", "fn main() { while 1 { merge(main); } return promote(v); }"} {
		f.Add(s)
	}
	f.Fuzz(func(t *testing.T, s string) {
		l, d, at, e := Source(s)
		if e != api.OK {
			if len(l) > 0 || !noDesc(d) || at < 0 || at > len(s) {
				t.Fatal(l, d, at, e)
			}
			return
		}
		wantModel(t, l)
		wantHintsApart(t, l)
		wantUntouched(t, l)
	})
}
