package tree

import (
	"math"
	"math/rand"
	"slices"
	"testing"

	"swath/api"
)

// chanceTree is a tree made by chance.
func chanceTree(chance *rand.Rand) []api.Node {
	p := of(api.NodeProgram, "")
	for range chance.Intn(4) {
		f := of(api.NodeFn, "f")
		for range chance.Intn(3) {
			f.kids = append(f.kids, name("p"))
		}
		f.kids = append(f.kids, chanceBlock(chance, 3))
		p.kids = append(p.kids, f)
		if chance.Intn(3) == 0 {
			p.kids = append(p.kids, of(api.NodeRec, "r", name("a"), name("b")))
		}
	}
	return list(p)
}

func chanceBlock(chance *rand.Rand, room int) part {
	b := block()
	for range chance.Intn(4) {
		kind := api.NodeLet + chance.Intn(9)
		s := sample(kind)
		for i, k := range s.kids {
			switch {
			case k.kind == api.NodeBlock && room > 0:
				s.kids[i] = chanceBlock(chance, room-1)
			case k.kind == api.NodeNum:
				s.kids[i] = chanceExpr(chance, room)
			}
		}
		b.kids = append(b.kids, s)
	}
	return b
}

func chanceExpr(chance *rand.Rand, room int) part {
	p := sample(api.NodeNum + chance.Intn(16))
	if p.kind == api.NodeCall {
		p.kids = make([]part, chance.Intn(3))
	}
	for i := range p.kids {
		p.kids[i] = num("3")
		if room > 0 {
			p.kids[i] = chanceExpr(chance, room-1)
		}
	}
	return p
}

func wantDeep(t *testing.T, l []api.Node, want int) {
	t.Helper()
	if got := Deep(l); got != want {
		t.Errorf("Deep is %d; wanted %d of %v", got, want, l)
	}
}

func TestDeep(t *testing.T) { // P5.2
	wantDeep(t, nil, 0)
	wantDeep(t, []api.Node{}, 0)
	wantDeep(t, []api.Node{{Kind: api.NodeProgram}}, 1)
	wantDeep(t, list(within()), 3)
	wantDeep(t, list(within(sample(api.NodeOut), of(api.NodeOut, "", of(api.NodeUnary, "-", num("1"))), sample(api.NodeMerge))), 6)
	for _, n := range []int{5, 6, api.MaxDeep, api.MaxDeep + 1, 3000} {
		if got := Deep(list(deepTree(n))); got != n {
			t.Error(n, got)
		}
	}
	if got := Deep(wide(api.MaxNodes + 1)); got != 2 {
		t.Error(got)
	}
	chance := rand.New(rand.NewSource(6))
	for range 3000 {
		l := chanceTree(chance)
		wantDeep(t, l, deepest(l, len(l)-1))
	}
}

func TestDeepOfNoTrees(t *testing.T) { // P5.2
	kids := func(l ...[]int) []api.Node {
		nodes := make([]api.Node, len(l))
		for i, k := range l {
			nodes[i].Kids = k
		}
		return nodes
	}
	wantDeep(t, kids(nil), 1)
	wantDeep(t, kids([]int{0}), 1)
	wantDeep(t, kids([]int{-1, 1, math.MinInt, math.MaxInt}), 1)
	wantDeep(t, kids([]int{1}, []int{0}), 2)
	wantDeep(t, kids([]int{1}, []int{1}), 1)
	wantDeep(t, kids(nil, []int{0}, []int{1}, nil), 1)
	wantDeep(t, kids(nil, []int{0}, []int{1}, []int{0}), 2)
	wantDeep(t, kids(nil, []int{0}, []int{1, 0}, []int{0, 2, 1, 3, 9}), 4)
	wantDeep(t, kids(nil, []int{0, 0}, []int{1, 1, -5}, []int{3}), 1)
	wantDeep(t, kids([]int{2}, []int{0}, []int{1}), 3)
	wantDeep(t, kids([]int{2}, []int{2}, []int{1}), 2)
	// Each node is a kid twice: the ways down double with each.
	l := make([]api.Node, 5000)
	for i := 1; i < len(l); i++ {
		l[i].Kids = []int{i - 1, i - 1}
	}
	if got := Deep(l); got != len(l) {
		t.Error(got)
	}
	// What lies behind the list's end doesn't count.
	wantDeep(t, l[:3], 3)
	chance := rand.New(rand.NewSource(7))
	for range 3000 {
		l := chanceTree(chance)
		for range 1 + chance.Intn(6) {
			spoilOne(chance, l)
		}
		wantDeep(t, l, deepest(l, len(l)-1))
	}
}

func wantSame(t *testing.T, a, b []api.Node, want bool) {
	t.Helper()
	if Same(a, b) != want || Same(b, a) != want {
		t.Errorf("Same is not %v of %v, %v", want, a, b)
	}
}

func TestSame(t *testing.T) { // P5.3
	wantSame(t, nil, nil, true)
	wantSame(t, nil, []api.Node{}, true)
	wantSame(t, nil, []api.Node{{}}, false)
	wantSame(t, []api.Node{{}}, []api.Node{{Kids: []int{}, At: -9}}, true)
	// Lists need not be trees.
	wantSame(t, []api.Node{{Kind: -1, Text: "?", Kids: []int{9, -9}}}, []api.Node{{Kind: -1, Text: "?", Kids: []int{9, -9}, At: 1}}, true)
	whole := list(within(of(api.NodeOut, "", of(api.NodeBin, "+", num("1"), num("2")))))
	wantSame(t, whole, whole, true)
	wantSame(t, whole, whole[:len(whole)-1], false)
	wantSame(t, whole, append(slices.Clone(whole), api.Node{}), false)
	wantSame(t, whole[:3], slices.Clone(whole)[:3:3], true)
	for i := range whole {
		for _, c := range []struct {
			same   bool
			change func(n *api.Node)
		}{
			{true, func(n *api.Node) {}},
			{true, func(n *api.Node) { n.At += 7 }},
			{true, func(n *api.Node) { n.At = -1 }},
			{true, func(n *api.Node) { n.Kids = slices.Clone(n.Kids) }},
			{false, func(n *api.Node) { n.Kind++ }},
			{false, func(n *api.Node) { n.Kind = -n.Kind }},
			{false, func(n *api.Node) { n.Text += "x" }},
			{false, func(n *api.Node) { n.Text = "\x00" + n.Text }},
			{false, func(n *api.Node) { n.Kids = append(slices.Clone(n.Kids), 0) }},
			{false, func(n *api.Node) { n.Kids = append([]int{-1}, n.Kids...) }},
		} {
			l := slices.Clone(whole)
			c.change(&l[i])
			wantSame(t, whole, l, c.same)
		}
	}
	l := slices.Clone(whole)
	l[2].Kids = []int{1, 0}
	wantSame(t, whole, l, false)
	l[2].Kids = []int{0}
	wantSame(t, whole, l, false)
	l[2].Kids = []int{0, 2}
	wantSame(t, whole, l, false)
}

// walked are the numbers and depths that Walk tells.
func walked(l []api.Node) [][2]int {
	var all [][2]int
	for n, deep := range Walk(l) {
		all = append(all, [2]int{n, deep})
	}
	return all
}

func TestWalk(t *testing.T) { // P5.4
	l := list(of(api.NodeProgram, "",
		of(api.NodeRec, "r", name("a"), name("b")), // 2: 0, 1
		of(api.NodeFn, "f", name("x"), block( // 10: 3, 9
			of(api.NodeOut, "", of(api.NodeBin, "+", num("1"), num("2"))), // 7: 6: 4, 5
			of(api.NodeMerge, ""))))) // 8
	want := [][2]int{{11, 0}, {2, 1}, {0, 2}, {1, 2}, {10, 1}, {3, 2}, {9, 2}, {7, 3}, {6, 4}, {4, 5}, {5, 5}, {8, 3}}
	if got := walked(l); !slices.Equal(got, want) {
		t.Error(got)
	}
	// Kids come in the order in which they are named, not in that of their numbers.
	l[6].Kids = []int{5, 4}
	l[11].Kids = []int{10, 2}
	want = [][2]int{{11, 0}, {10, 1}, {3, 2}, {9, 2}, {7, 3}, {6, 4}, {5, 5}, {4, 5}, {8, 3}, {2, 1}, {0, 2}, {1, 2}}
	if got := walked(l); !slices.Equal(got, want) {
		t.Error(got)
	}
	if got := walked([]api.Node{{Kind: api.NodeProgram}}); !slices.Equal(got, [][2]int{{0, 0}}) {
		t.Error(got)
	}
	deep := walked(list(deepTree(api.MaxDeep)))
	if len(deep) != api.MaxDeep || deep[api.MaxDeep-1] != [2]int{0, api.MaxDeep - 1} {
		t.Error(len(deep))
	}
}

func TestWalkLeftAndGoneOverAgain(t *testing.T) { // P5.4
	l := list(within(sample(api.NodeIf), sample(api.NodeSet)))
	want := walked(l)
	if len(want) != len(l) {
		t.Fatal(want)
	}
	each := Walk(l)
	for stop := range len(want) {
		var got [][2]int
		for n, deep := range each {
			got = append(got, [2]int{n, deep})
			if len(got) == stop+1 {
				break
			}
		}
		if !slices.Equal(got, want[:stop+1]) {
			t.Error("left behind", stop+1, got)
		}
	}
	// Two goings at one time are apart.
	at := 0
	for n, deep := range each {
		if want[at] != [2]int{n, deep} {
			t.Error(at, n, deep)
		}
		at++
		inner := 0
		for n, deep := range each {
			if want[inner] != [2]int{n, deep} {
				t.Error(at, inner, n, deep)
			}
			inner++
		}
	}
	if at != len(want) {
		t.Error(at)
	}
}

// wrongLists are lists of which Check says each of its errors.
func wrongLists() map[api.Errno][]api.Node {
	text := list(within(sample(api.NodeOut)))
	text[0].Text = "01"
	return map[api.Errno][]api.Node{
		api.ErrLong: wide(api.MaxNodes + 1),
		api.ErrTree: {{Kind: api.NodeProgram}, {Kind: api.NodeProgram}},
		api.ErrText: text,
		api.ErrKids: {{Kind: api.NodeNone}, {Kind: api.NodeProgram, Kids: []int{0}}},
		api.ErrDeep: list(deepTree(api.MaxDeep + 1)),
	}
}

func TestWalkOfWrongLists(t *testing.T) { // P5.4
	for e, l := range wrongLists() {
		if _, got := Check(l); got != e {
			t.Error(e, got)
		}
		for n, deep := range Walk(l) {
			t.Fatal("of a list with error", e, "are told", n, deep)
		}
	}
	for range Walk(nil) {
		t.Error("the empty list has a node")
	}
}

func TestOnceEach(t *testing.T) { // P5.5
	chance := rand.New(rand.NewSource(8))
	for range 3000 {
		l := chanceTree(chance)
		wantOnceEach(t, l)
		if t.Failed() {
			return
		}
	}
	wantOnceEach(t, wide(api.MaxNodes))
	wantOnceEach(t, list(deepTree(api.MaxDeep)))
}

// wantOnceEach wants each node once, one deeper than its parent, and a node's kids behind it in their order.
func wantOnceEach(t *testing.T, l []api.Node) {
	t.Helper()
	all := walked(l)
	place := make([]int, len(l))
	deep := make([]int, len(l))
	for i := range place {
		place[i] = -1
	}
	for i, x := range all {
		if place[x[0]] >= 0 {
			t.Fatal("node", x[0], "is told again")
		}
		place[x[0]], deep[x[0]] = i, x[1]
	}
	if len(all) != len(l) || all[0] != [2]int{len(l) - 1, 0} {
		t.Fatal(len(all), len(l), all[0])
	}
	for i, n := range l {
		from := place[i]
		for _, k := range n.Kids {
			if place[k] <= from || deep[k] != deep[i]+1 {
				t.Error("node", k, "stands at", place[k], deep[k])
			}
			from = place[k]
		}
	}
}

func TestParents(t *testing.T) { // P5.6
	if got := Parents([]api.Node{{Kind: api.NodeProgram}}); !slices.Equal(got, []int{-1}) {
		t.Error(got)
	}
	l := list(of(api.NodeProgram, "", of(api.NodeRec, "r", name("a"), name("b")), of(api.NodeFn, "f", name("x"), block(sample(api.NodeOut), sample(api.NodeMerge)))))
	if got := Parents(l); !slices.Equal(got, []int{2, 2, 9, 8, 5, 7, 7, 8, 9, -1}) {
		t.Error(got)
	}
	chance := rand.New(rand.NewSource(9))
	for range 3000 {
		l := chanceTree(chance)
		if got := Parents(l); !slices.Equal(got, parentsOf(l)) {
			t.Fatal(got, l)
		}
	}
	if got := Parents(wide(api.MaxNodes)); len(got) != api.MaxNodes || got[0] != api.MaxNodes-1 || got[api.MaxNodes-1] != -1 {
		t.Error(len(got))
	}
	for e, l := range wrongLists() {
		if got := Parents(l); len(got) != 0 {
			t.Error("a list with error", e, "has", len(got), "parents")
		}
	}
	if got := Parents(nil); len(got) != 0 {
		t.Error(got)
	}
}

// parentsOf looks for each node's parent among all.
func parentsOf(l []api.Node) []int {
	up := make([]int, len(l))
	for i := range l {
		up[i] = slices.IndexFunc(l, func(n api.Node) bool { return slices.Contains(n.Kids, i) })
	}
	return up
}

func copied(l []api.Node) []api.Node {
	l = slices.Clone(l)
	for i := range l {
		l[i].Kids = slices.Clone(l[i].Kids)
	}
	return l
}

func alike(a, b []api.Node) bool {
	return slices.EqualFunc(a, b, func(x, y api.Node) bool {
		return x.Kind == y.Kind && x.Text == y.Text && x.At == y.At && slices.Equal(x.Kids, y.Kids)
	})
}

func TestNothingIsChanged(t *testing.T) { // P2
	chance := rand.New(rand.NewSource(10))
	for i := range 500 {
		l := chanceTree(chance)
		if i%2 == 1 {
			spoilOne(chance, l)
		}
		before := copied(l)
		Check(l)
		Deep(l)
		Same(l, l)
		walked(l)
		Parents(l)
		if !alike(l, before) {
			t.Fatal(l, before)
		}
	}
}

func TestNothingIsShared(t *testing.T) { // P2
	l := list(within(sample(api.NodeIf), sample(api.NodeSet)))
	want := walked(l)
	up := Parents(l)
	each := Walk(l)
	first := Parents(l)
	for i := range first {
		first[i] = 77
	}
	for i := range l {
		for x := range l[i].Kids {
			l[i].Kids[x] = 0
		}
		l[i] = api.Node{}
	}
	var got [][2]int
	for n, deep := range each {
		got = append(got, [2]int{n, deep})
	}
	if !slices.Equal(got, want) {
		t.Error("what is told changes with the list:", got)
	}
	if len(up) != len(want) || up[len(up)-1] != -1 || slices.Contains(up, 77) {
		t.Error(up)
	}
}

func TestAnswersAreAlikeAgain(t *testing.T) { // P3
	chance := rand.New(rand.NewSource(11))
	for range 300 {
		l := chanceTree(chance)
		spoilOne(chance, l)
		// A list with room behind it, and none in place of empty ones.
		other := append(copied(l), api.Node{Kind: -1})[:len(l)]
		for i := range other {
			if len(other[i].Kids) == 0 {
				other[i].Kids = []int{}
			}
		}
		at, e := Check(l)
		wantCheck(t, other, at, e)
		if !slices.Equal(walked(l), walked(other)) || !slices.Equal(Parents(l), Parents(other)) || !Same(l, other) || Deep(l) != Deep(other) {
			t.Fatal(l)
		}
	}
}

func TestListsOfAnything(t *testing.T) { // P1
	chance := rand.New(rand.NewSource(12))
	for range 20000 {
		l := make([]api.Node, chance.Intn(6))
		for i := range l {
			l[i] = api.Node{Kind: chance.Intn(36) - 2, Text: []string{"", "x", "5", "+", "let"}[chance.Intn(5)], At: chance.Intn(4) - 1}
			for range chance.Intn(4) {
				l[i].Kids = append(l[i].Kids, chance.Intn(10)-2)
			}
		}
		at, e := checked(l)
		wantCheck(t, l, at, e)
		if (len(walked(l)) > 0) != (e == api.OK) || (len(Parents(l)) > 0) != (e == api.OK) {
			t.Fatal(l)
		}
		if len(l) > 0 {
			wantDeep(t, l, deepest(l, len(l)-1))
		}
	}
}
