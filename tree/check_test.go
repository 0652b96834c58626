package tree

import (
	"math"
	"math/rand"
	"slices"
	"strings"
	"testing"

	"swath/api"
)

func wantCheck(t *testing.T, l []api.Node, at int, e api.Errno) {
	t.Helper()
	if n, got := Check(l); n != at || got != e {
		t.Errorf("Check is %d, %d; wanted %d, %d of %v", n, got, at, e, l)
	}
}

// wantTop wants an error of the last of a part's nodes; with OK that it is right, which of all but a program isn't enough.
func wantTop(t *testing.T, p part, e api.Errno) {
	t.Helper()
	l := list(p)
	last := len(l) - 1
	if e == api.OK && p.kind == api.NodeProgram {
		last = 0
	} else if e == api.OK {
		e = api.ErrTree
	}
	wantCheck(t, l, last, e)
}

func TestExample(t *testing.T) { // P5.1
	wantCheck(t, []api.Node{{Kind: api.NodeNone}, {Kind: api.NodeProgram, Kids: []int{0}}}, 1, api.ErrKids)
}

func TestTrees(t *testing.T) { // P5.1
	for _, p := range []part{
		of(api.NodeProgram, ""),
		within(),
		of(api.NodeProgram, "", sample(api.NodeRec)),
		of(api.NodeProgram, "", sample(api.NodeFn), sample(api.NodeRec), sample(api.NodeFn)),
		within(sample(api.NodeLet), sample(api.NodeSet), sample(api.NodeIf), sample(api.NodeWhile), sample(api.NodeReturn)),
		within(of(api.NodeIf, "", num("0"), block(sample(api.NodeMerge)), block(sample(api.NodeDo)))),
		within(of(api.NodeMerge, "", name("a"), name("b"), name("c"), name("d"), name("e"))),
	} {
		wantTop(t, p, api.OK)
	}
	for kind := api.NodeNum; kind <= kinds; kind++ {
		wantTop(t, within(of(api.NodeReturn, "", sample(kind))), api.OK)
	}
	// Places may be any from 0 on, in no order.
	l := list(within(sample(api.NodeOut)))
	l[0].At, l[1].At, l[2].At = math.MaxInt, 0, 0
	wantCheck(t, l, 0, api.OK)
	// Kids need not lie next to their parent, nor in the order of their numbers.
	l = []api.Node{{Kind: api.NodeNum, Text: "1"}, {Kind: api.NodeBlock}, {Kind: api.NodeFn, Text: "f", Kids: []int{1}}, {Kind: api.NodeName, Text: "x"},
		{Kind: api.NodeSet, Kids: []int{3, 0}}, {Kind: api.NodeBlock, Kids: []int{4}}, {Kind: api.NodeFn, Text: "g", Kids: []int{5}}, {Kind: api.NodeProgram, Kids: []int{6, 2}}}
	wantCheck(t, l, 0, api.OK)
}

func TestEveryKindsKids(t *testing.T) { // P5.1
	for kind := 1; kind <= kinds; kind++ {
		parent := sample(kind)
		for first := 0; first <= kinds; first++ {
			for second := 0; second <= kinds; second++ {
				for third := 0; third <= kinds; third++ {
					if first == 0 && second > 0 || second == 0 && third > 0 {
						continue
					}
					wantKinds(t, parent, first, second, third)
				}
			}
		}
	}
}

// wantKinds wants of a parent with kids of those kinds (0: none) what the table says.
func wantKinds(t *testing.T, parent part, kidKinds ...int) {
	t.Helper()
	parent.kids = nil
	s := ""
	for _, kind := range kidKinds {
		if kind > 0 {
			parent.kids = append(parent.kids, sample(kind))
			s += called[kind] + " "
		}
	}
	if table[parent.kind].kids.MatchString(s) {
		wantTop(t, parent, api.OK)
	} else {
		wantTop(t, parent, api.ErrKids)
	}
}

func TestManyKids(t *testing.T) { // P5.1
	for kind := 1; kind <= kinds; kind++ {
		for kid := 1; kid <= kinds; kid++ {
			wantKinds(t, sample(kind), kid, kid, kid, kid)
			wantKinds(t, sample(kind), kid, kid, kid, api.NodeBlock)
			wantKinds(t, sample(kind), kid, kid, kid, api.NodeBlock, api.NodeBlock)
			wantKinds(t, sample(kind), kid, api.NodeBlock, api.NodeNone, api.NodeNone)
			wantKinds(t, sample(kind), api.NodeName, kid, api.NodeName, api.NodeBlock)
		}
	}
	// What stands at each place counts, not what is there in all.
	wantTop(t, of(api.NodeFn, "f", block(), name("x")), api.ErrKids)
	wantTop(t, of(api.NodeSet, "", num("1"), name("x")), api.ErrKids)
	wantTop(t, of(api.NodeIf, "", num("1"), of(api.NodeNone, ""), block()), api.ErrKids)
	wantTop(t, of(api.NodeWhile, "", block(), num("1")), api.ErrKids)
}

func TestEveryKindsText(t *testing.T) { // P5.1
	texts := strings.Fields("a Z _ x1 _9 rect fns If NULL main 0 1 9 10 42 100 00 01 007 0x1 0x1F 0X1 1x 1a 1_0 'a' '5' '0' '' ' -1 +1 1.5 a.b a-b é - + * / % << >> & ^ | == != < <= ! ~ > >= = ( ) { } [ ] , ; . -- << <<= && || ++ =< =! // +- !~")
	texts = append(texts, words...)
	texts = append(texts, "", " ", "\n", "a ", " a", "a b", " 1", "1 ", "1\n", "+ ", " -", "\x00", "1\x00", "\xff", "٣", "1e3", "0b1", "0o7", "9223372036854775806", "9223372036854775807", "9223372036854775808",
		"10000000000000000000", "18446744073709551616", "18446744073709551617", "09223372036854775807", "0x7fffffffffffffff", strings.Repeat("9", 40), "1"+strings.Repeat("0", 18), strings.Repeat("0", 30), strings.Repeat("ab", 500))
	for kind := 1; kind <= kinds; kind++ {
		right := 0
		for _, text := range texts {
			p := sample(kind)
			p.text = text
			if rightText(kind, text) {
				wantTop(t, p, api.OK)
				right++
			} else {
				wantTop(t, p, api.ErrText)
			}
		}
		if right == 0 {
			t.Error("no text is right for", called[kind])
		}
	}
}

func TestTextsOfNumbers(t *testing.T) { // P5.1
	for _, text := range []string{"0", "1", "9", "10", "90", "123456789", "9223372036854775807"} {
		wantTop(t, num(text), api.OK)
	}
	for _, text := range []string{"", "00", "01", "010", "0x0", "0x1F", "0xff", "'a'", "'1'", "-1", "9223372036854775808", "99999999999999999999", " 1", "1 ", "x"} {
		wantTop(t, num(text), api.ErrText)
	}
	for _, word := range words {
		wantTop(t, name(word), api.ErrText)
		wantTop(t, name(word+"_"), api.OK)
		wantTop(t, of(api.NodeFn, word, block()), api.ErrText)
	}
	if l := rightOnes(api.NodeUnary); len(l) != 3 {
		t.Error(l)
	}
	if l := rightOnes(api.NodeBin); len(l) != 14 {
		t.Error(l)
	}
}

// rightOnes are the texts of at most two bytes that Check takes of a kind.
func rightOnes(kind int) []string {
	var right []string
	p := sample(kind)
	for a := range 256 {
		for b := -1; b < 256; b++ {
			p.text = string([]byte{byte(a)})
			if b >= 0 {
				p.text += string([]byte{byte(b)})
			}
			if _, e := Check(list(p)); e != api.ErrText {
				right = append(right, p.text)
			}
		}
	}
	return right
}

func TestKindsThereAreNot(t *testing.T) { // P5.1
	for _, kind := range []int{0, -1, -17, 31, 32, 100, 1 << 32, 1<<32 + 1, math.MaxInt, math.MinInt} {
		l := list(within(sample(api.NodeOut)))
		l[1].Kind = kind
		wantCheck(t, l, 1, api.ErrTree)
		wantCheck(t, []api.Node{{Kind: kind}}, 0, api.ErrTree)
	}
}

func TestPlacesBelowNought(t *testing.T) { // P5.1
	for _, at := range []int{-1, -2, math.MinInt} {
		whole := list(within(sample(api.NodeOut)))
		for i := range whole {
			l := slices.Clone(whole)
			l[i].At = at
			wantCheck(t, l, i, api.ErrTree)
		}
	}
}

func TestNumbersOfKids(t *testing.T) { // P5.1
	// 0 and 1 are numbers, 2 is their sum, 3 an out of it.
	whole := list(within(of(api.NodeOut, "", of(api.NodeBin, "+", num("1"), num("2")))))
	for _, kids := range [][]int{{0, -1}, {-1, 1}, {0, 2}, {2, 2}, {0, 3}, {5, 1}, {0, 100}, {math.MaxInt, math.MinInt}, {0, 0}, {1, 1}, {0, 1, 0}, {0, 1, 1}, {0, 1, -1}, {0, 1, 2}} {
		l := slices.Clone(whole)
		l[2].Kids = kids
		wantCheck(t, l, 2, api.ErrTree)
	}
	for _, kids := range [][]int{{0}, {1}, {2, 0}, {1, 2}, {3}, {-1}, {2, 2}} {
		l := slices.Clone(whole)
		l[3].Kids = kids
		wantCheck(t, l, 3, api.ErrTree)
	}
	l := slices.Clone(whole)
	l[2].Kids = []int{1, 0}
	wantCheck(t, l, 0, api.OK)
	l[2].Kids = []int{0}
	wantCheck(t, l, 2, api.ErrKids)
	l[2].Kids = nil
	wantCheck(t, l, 2, api.ErrKids)
	// A node far ahead counts as well as the one next to it.
	l = list(within(sample(api.NodeOut), sample(api.NodeOut), sample(api.NodeOut), of(api.NodeStop, "", num("1"))))
	l[7].Kids = []int{0}
	wantCheck(t, l, 7, api.ErrTree)
}

func TestFirstErrorOfANode(t *testing.T) { // P5.1
	faults := func(tree, text, kids bool) api.Node {
		n := api.Node{Kind: api.NodeBin, Text: "+", Kids: []int{0, 1}}
		if kids {
			n.Kids = []int{1}
		}
		if text {
			n.Text = "let"
		}
		if tree {
			n.At = -1
		}
		return n
	}
	ahead := list(of(api.NodeBin, "+", num("1"), num("2")))[:2]
	for bits := range 8 {
		n := faults(bits&1 > 0, bits&2 > 0, bits&4 > 0)
		want := []api.Errno{api.ErrTree, api.ErrTree, api.ErrText, api.ErrTree, api.ErrKids, api.ErrTree, api.ErrText, api.ErrTree}[bits]
		wantCheck(t, append(slices.Clone(ahead), n), 2, want)
	}
	for _, n := range []api.Node{{Kind: 99, Text: "??", Kids: []int{0}}, {Kind: api.NodeNum, Text: "x", Kids: []int{5}}, {Kind: api.NodeNum, Text: "x", Kids: []int{0, 0}}, {Kind: api.NodeProgram, Text: "x", Kids: []int{0, -1}}} {
		wantCheck(t, append(slices.Clone(ahead), n), 2, api.ErrTree)
	}
}

// inserted is a list with one node more, at a place, which is nobody's kid.
func inserted(l []api.Node, at int, n api.Node) []api.Node {
	l = slices.Insert(copied(l), at, n)
	for i := range l {
		for x, k := range l[i].Kids {
			if k >= at {
				l[i].Kids[x]++
			}
		}
	}
	return l
}

func TestFirstNodeThatIsWrong(t *testing.T) { // P5.1
	whole := list(within(of(api.NodeLet, "x", num("1")), of(api.NodeLet, "y", num("2")), of(api.NodeOut, "", name("x"))))
	spoil := map[api.Errno]func(n *api.Node){
		api.ErrTree: func(n *api.Node) { n.Kind = 0 },
		api.ErrText: func(n *api.Node) { n.Text += "?" },
		// Node 0, a NodeNone, is nobody's kid and fits nowhere here.
		api.ErrKids: func(n *api.Node) { n.Kids = append(slices.Clone(n.Kids), 0) },
	}
	for first, spoilFirst := range spoil {
		for _, spoilSecond := range spoil {
			for i := range whole {
				for j := i + 1; j < len(whole); j++ {
					l := inserted(whole, 0, api.Node{Kind: api.NodeNone})
					spoilFirst(&l[i+1])
					spoilSecond(&l[j+1])
					wantCheck(t, l, i+1, first)
				}
			}
		}
	}
	// What is wrong with the whole comes behind what is wrong with any node.
	l := slices.Clone(whole[:len(whole)-1])
	l[len(l)-1].Text = "1"
	wantCheck(t, l, len(l)-1, api.ErrText)
	l = append(slices.Clone(whole), api.Node{Kind: api.NodeNone, Text: "x"})
	wantCheck(t, l, len(l)-1, api.ErrText)
}

func TestTheOneProgram(t *testing.T) { // P5.1
	wantCheck(t, nil, 0, api.ErrTree)
	wantCheck(t, []api.Node{}, 0, api.ErrTree)
	wantCheck(t, []api.Node{{Kind: api.NodeProgram}}, 0, api.OK)
	for kind := 2; kind <= kinds; kind++ {
		l := list(sample(kind))
		wantCheck(t, l, len(l)-1, api.ErrTree)
	}
	whole := list(within(sample(api.NodeOut)))
	last := len(whole) - 1
	wantCheck(t, whole, 0, api.OK)
	wantCheck(t, whole[:last], last-1, api.ErrTree)
	wantCheck(t, append(slices.Clone(whole), api.Node{Kind: api.NodeNone}), last+1, api.ErrTree)
	wantCheck(t, append(slices.Clone(whole), api.Node{Kind: api.NodeProgram}), last+1, api.ErrTree)
	wantCheck(t, []api.Node{{Kind: api.NodeProgram}, {Kind: api.NodeProgram}}, 1, api.ErrTree)
	wantCheck(t, []api.Node{{Kind: api.NodeProgram}, {Kind: api.NodeProgram, Kids: []int{0}}}, 1, api.ErrKids)
	// Nodes that are nobody's kids: the first, one in between, the one ahead of the last.
	for at := range last + 1 {
		wantCheck(t, inserted(whole, at, api.Node{Kind: api.NodeNull}), last+1, api.ErrTree)
	}
}

// wide is a tree of n nodes: a program of nothing but records.
func wide(n int) []api.Node {
	l := make([]api.Node, n)
	for i := range n - 1 {
		l[i] = api.Node{Kind: api.NodeRec, Text: "r"}
		l[n-1].Kids = append(l[n-1].Kids, i)
	}
	l[n-1].Kind = api.NodeProgram
	return l
}

func TestManyNodes(t *testing.T) { // P5.1
	wantMany := func(l []api.Node, at int, e api.Errno) {
		t.Helper()
		if n, got := Check(l); n != at || got != e {
			t.Errorf("Check of %d nodes is %d, %d; wanted %d, %d", len(l), n, got, at, e)
		}
	}
	most := wide(api.MaxNodes)
	wantMany(most, 0, api.OK)
	wantMany(wide(api.MaxNodes+1), 0, api.ErrLong)
	wantMany(make([]api.Node, api.MaxNodes), 0, api.ErrTree)
	wantMany(make([]api.Node, api.MaxNodes+1), 0, api.ErrLong)
	// What lies behind the list's end doesn't count.
	wantMany(append(most, api.Node{})[:api.MaxNodes], 0, api.OK)
	most[api.MaxNodes-2].At = -1
	wantMany(most, api.MaxNodes-2, api.ErrTree)
}

// deepTree is a tree in which n nodes stand within one another (5 of them or more).
func deepTree(n int) part {
	p := num("1")
	for range n - 5 {
		p = of(api.NodeUnary, "~", p)
	}
	return within(of(api.NodeOut, "", p))
}

func TestDeepTrees(t *testing.T) { // P5.1
	wantCheck(t, list(deepTree(api.MaxDeep-1)), 0, api.OK)
	wantCheck(t, list(deepTree(api.MaxDeep)), 0, api.OK)
	wantCheck(t, list(deepTree(api.MaxDeep+1)), 0, api.ErrDeep)
	wantCheck(t, list(deepTree(5000)), 0, api.ErrDeep)
	// Nodes that are wrong, and a whole that is, come first.
	l := list(deepTree(api.MaxDeep + 1))
	wantCheck(t, l[:len(l)-1], len(l)-2, api.ErrTree)
	l[100].Text = "?"
	wantCheck(t, l, 100, api.ErrText)
}

// TestSpoiled spoils trees by chance and wants what the chapter's sentences say.
func TestSpoiled(t *testing.T) { // P5.1
	chance := rand.New(rand.NewSource(5))
	told := map[api.Errno]int{}
	for range 60000 {
		l := chanceTree(chance)
		for range chance.Intn(4) {
			spoilOne(chance, l)
		}
		at, e := checked(l)
		wantCheck(t, l, at, e)
		told[e]++
		if t.Failed() {
			return
		}
	}
	for _, e := range []api.Errno{api.OK, api.ErrTree, api.ErrText, api.ErrKids} {
		if told[e] < 1000 {
			t.Error("error", e, "came", told[e], "times")
		}
	}
}

func spoilOne(chance *rand.Rand, l []api.Node) {
	n := &l[chance.Intn(len(l))]
	switch chance.Intn(7) {
	case 0:
		n.Kind = chance.Intn(kinds+4) - 1
	case 1:
		n.Text = []string{"", "x", "1", "0", "01", "-", "!", "<", "<=", "let", "'a'", "0x1"}[chance.Intn(12)]
	case 2:
		n.At = chance.Intn(3) - 1
	case 3:
		n.Kids = append(n.Kids, chance.Intn(len(l)+2)-1)
	case 4:
		if len(n.Kids) > 0 {
			n.Kids = n.Kids[1:]
		}
	case 5:
		if len(n.Kids) > 0 {
			n.Kids[chance.Intn(len(n.Kids))] = chance.Intn(len(l)+2) - 1
		}
	default:
		chance.Shuffle(len(n.Kids), func(i, j int) { n.Kids[i], n.Kids[j] = n.Kids[j], n.Kids[i] })
	}
}
