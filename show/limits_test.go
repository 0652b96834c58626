package show

import (
	"math/rand"
	"slices"
	"strings"
	"testing"

	"swath/api"
	"swath/tree"
)

// wantFault wants an error of both calls, and no text.
func wantFault(t *testing.T, l []api.Node, e api.Errno) {
	t.Helper()
	if s, got := Program(l); s != "" || got != e {
		t.Errorf("Program is %.300q, %d; wanted %d of %.300v", s, got, e, l)
	}
	if s, got := Lisp(l); s != "" || got != e {
		t.Errorf("Lisp is %.300q, %d; wanted %d of %.300v", s, got, e, l)
	}
}

// ending is a tree that ends with a record whose name has that many bytes, ten of them or more with what stands about it.
func ending(bytes int, kids ...part) part {
	record := of(api.NodeRec, strings.Repeat("r", bytes-len("rec  {}\n")))
	return of(api.NodeProgram, "", append(slices.Clone(kids), record)...)
}

// wantMost wants parts, shown as that text, to be shown with what fills them up to the bound, but not with a byte more.
func wantMost(t *testing.T, text string, kids ...part) {
	t.Helper()
	rest := 4*api.MaxSource - len(text)
	p := ending(rest, kids...)
	wantShown(t, list(p), text+"rec "+strings.Repeat("r", rest-8)+" {}\n")
	for _, more := range []int{1, 2, 7, 1000} {
		l := list(ending(rest+more, kids...))
		if s, e := Program(l); s != "" || e != api.ErrLong {
			t.Errorf("%d bytes too many: %d bytes are shown, %d", more, len(s), e)
		}
		// It is the description that is too long, not the tree.
		if s, e := Lisp(l); s == "" || e != api.OK {
			t.Error(len(s), e)
		}
	}
	wantShown(t, list(ending(rest-1, kids...)), text+"rec "+strings.Repeat("r", rest-9)+" {}\n")
}

func TestMostBytes(t *testing.T) { // P7.1
	x, call := name("x"), of(api.NodeDo, "", of(api.NodeCall, "g"))
	wantMost(t, "")
	wantMost(t, "rec P {x}\nfn f() {\n}\n", of(api.NodeRec, "P", x), of(api.NodeFn, "f", block()))
	// What is too much may be text of any sort: lines, blanks ahead of them, signs, parentheses, commas.
	many := func(p part, n int) []part { return slices.Repeat([]part{p}, n) }
	wantMost(t, "fn f() {\n"+strings.Repeat("    g();\n", 20000)+"}\n", of(api.NodeFn, "f", block(many(call, 20000)...)))
	wantMost(t, "rec P {x"+strings.Repeat(", x", 40000)+"}\n", of(api.NodeRec, "P", many(x, 40001)...))
	p, text := block(many(call, 1800)...), strings.Repeat(strings.Repeat("    ", 91)+"g();\n", 1800)
	for i := range 90 {
		p = block(of(api.NodeWhile, "", num("1"), p))
		ahead := strings.Repeat("    ", 90-i)
		text = ahead + "while 1 {\n" + text + ahead + "}\n"
	}
	wantMost(t, "fn f() {\n"+text+"}\n", of(api.NodeFn, "f", p))
	// Four nodes about them, two for each.
	const n = (api.MaxDeep - 5) / 2
	e := x
	for range n {
		e = sign("-", bin(x, "-", e))
	}
	inner := strings.Repeat("-(x - ", n) + "x" + strings.Repeat(")", n)
	wantMost(t, "fn f() {\n"+strings.Repeat("    return "+inner+";\n", 100)+"}\n", of(api.NodeFn, "f", block(many(of(api.NodeReturn, "", e), 100)...)))
}

// TestTooLongAnywhere has what is too long as each kind's Text, and behind it much that isn't.
func TestTooLongAnywhere(t *testing.T) { // P7.1
	long, x := strings.Repeat("n", 4*api.MaxSource), name("x")
	returned := func(e part) part { return of(api.NodeFn, "f", block(of(api.NodeReturn, "", e))) }
	for _, p := range []part{
		of(api.NodeRec, long), of(api.NodeRec, "P", name(long)), of(api.NodeFn, long, block()), of(api.NodeFn, "f", name(long), block()),
		of(api.NodeFn, "f", block(of(api.NodeLet, long, x))), of(api.NodeFn, "f", block(of(api.NodeMerge, "", name(long)))),
		returned(name(long)), returned(field(x, long)), returned(of(api.NodeCall, long)), returned(of(api.NodeNew, long)),
	} {
		l := list(of(api.NodeProgram, "", p, of(api.NodeRec, "Q", x, x, x)))
		if s, e := Program(l); s != "" || e != api.ErrLong {
			t.Error(p.kind, len(s), e)
		}
	}
	// Many nodes have one long text: all together is more than there is room for.
	long = long[:100000]
	l := list(of(api.NodeProgram, "", slices.Repeat([]part{of(api.NodeRec, long, name(long))}, 2000)...))
	if s, e := Program(l); s != "" || e != api.ErrLong {
		t.Error(len(s), e)
	}
}

// faults are lists of which tree.Check says each of its errors.
func faults() map[api.Errno][][]api.Node {
	deep, wide := name("x"), of(api.NodeRec, "P")
	// One more than may be: a name and four nodes about them.
	for range api.MaxDeep - 4 {
		deep = sign("-", deep)
	}
	wide.kids = slices.Repeat([]part{name("a")}, api.MaxNodes-1)
	return map[api.Errno][][]api.Node{
		api.ErrLong: {list(of(api.NodeProgram, "", wide)), make([]api.Node, api.MaxNodes+1)},
		api.ErrTree: {
			nil, {}, {{}}, {{Kind: -1}}, {{Kind: 31}}, {{Kind: api.NodeNum, Text: "1"}}, {{Kind: api.NodeProgram, At: -1}}, {{Kind: api.NodeProgram, Kids: []int{0}}}, {{Kind: api.NodeProgram, Kids: []int{-1}}},
			{{Kind: api.NodeProgram}, {Kind: api.NodeProgram}}, {{Kind: api.NodeRec, Text: "P"}, {Kind: api.NodeProgram, Kids: []int{0, 0}}}, list(within())[:2],
		},
		api.ErrText: {
			list(of(api.NodeProgram, "x")), list(of(api.NodeProgram, "", of(api.NodeRec, ""))), list(of(api.NodeProgram, "", of(api.NodeRec, "let"))), expressionTree(num("01")), expressionTree(num("")),
			expressionTree(num("9223372036854775808")), expressionTree(num("0x1")), expressionTree(sign("+", name("x"))), expressionTree(bin(name("x"), ">", name("x"))), expressionTree(field(name("x"), "a b")), expressionTree(of(api.NodeNull, "null")),
		},
		api.ErrKids: {
			list(of(api.NodeProgram, "", none())), list(of(api.NodeProgram, "", of(api.NodeFn, "f"))), list(within(name("x"))), list(within(of(api.NodeIf, "", name("x"), block()))), list(within(of(api.NodeSet, "", num("1"), num("1")))),
			list(within(of(api.NodeDo, "", name("f")))), expressionTree(sign("-", block())), expressionTree(of(api.NodeBin, "+", num("1"))), expressionTree(of(api.NodeIn, "", num("1"))),
		},
		api.ErrDeep: {expressionTree(deep)},
	}
}

func TestListsThatAreNoTree(t *testing.T) { // P7.1, P7.2
	for e, lists := range faults() {
		for _, l := range lists {
			if _, got := tree.Check(l); got != e {
				t.Errorf("%.300v has error %d; wanted %d", l, got, e)
			}
			wantFault(t, l, e)
		}
	}
	// That it is no tree is named ahead of that it is too long.
	l := list(ending(4*api.MaxSource + 1))
	l[0].At = -1
	wantFault(t, l, api.ErrTree)
	l = list(ending(4*api.MaxSource + 1))
	l[0].Text += "-"
	wantFault(t, l, api.ErrText)
}

// copied is a list that shares nothing with l, with room behind it and its kids.
func copied(l []api.Node) []api.Node {
	all := make([]api.Node, len(l), len(l)+3)
	for i, n := range l {
		all[i] = n
		all[i].Kids = append(make([]int, 0, len(n.Kids)+2), n.Kids...)
	}
	return all
}

func alike(a, b []api.Node) bool {
	return sameNodes(a, b) && slices.EqualFunc(a, b, func(x, y api.Node) bool { return x.At == y.At })
}

// wantAnswers wants the answers that tree.Check's error says, the same ones again, of a copy too, and the list unchanged.
func wantAnswers(t *testing.T, l []api.Node) api.Errno {
	t.Helper()
	before := copied(l)
	_, e := tree.Check(l)
	shown, showError := Program(l)
	lisp, lispError := Lisp(l)
	if showError != e || lispError != e || (lisp != "") != (e == api.OK) || e != api.OK && shown != "" {
		t.Fatalf("%q, %d; %q, %d; wanted %d of %v", shown, showError, lisp, lispError, e, l)
	}
	for _, other := range [][]api.Node{l, before} {
		shownAgain, _ := Program(other)
		lispAgain, _ := Lisp(other)
		if shownAgain != shown || lispAgain != lisp {
			t.Fatalf("%q and %q; %q and %q", shown, shownAgain, lisp, lispAgain)
		}
	}
	if !alike(l, before) || !alike(before[len(l):cap(before)], make([]api.Node, 3)) {
		t.Fatalf("%v was %v", l, before)
	}
	for _, n := range before {
		if !slices.Equal(n.Kids[len(n.Kids):cap(n.Kids)], make([]int, cap(n.Kids)-len(n.Kids))) {
			t.Fatal("behind its kids is written", n.Kids[:cap(n.Kids)])
		}
	}
	return e
}

func TestListsOfAnything(t *testing.T) { // P1, P7.1, P7.2
	chance := rand.New(rand.NewSource(71))
	for range 20000 {
		l := make([]api.Node, chance.Intn(6))
		for i := range l {
			l[i] = api.Node{Kind: chance.Intn(36) - 2, Text: []string{"", "x", "5", "+", "let"}[chance.Intn(5)], At: chance.Intn(4) - 1}
			for range chance.Intn(4) {
				l[i].Kids = append(l[i].Kids, chance.Intn(10)-2)
			}
		}
		wantAnswers(t, l)
	}
}

// spoil changes one thing of one node.
func spoil(chance *rand.Rand, l []api.Node) {
	n := &l[chance.Intn(len(l))]
	switch chance.Intn(6) {
	case 0:
		n.Kind = chance.Intn(34) - 1
	case 1:
		n.Text = []string{"", "x", "5", "05", "+", "-", "==", "let", "\n", "\xff"}[chance.Intn(10)]
	case 2:
		n.At = chance.Intn(9) - 4
	case 3:
		n.Kids = append(n.Kids, chance.Intn(len(l)+4)-2)
	case 4:
		if len(n.Kids) > 0 {
			n.Kids[chance.Intn(len(n.Kids))] = chance.Intn(len(l)+4) - 2
		}
	default:
		slices.Reverse(n.Kids)
	}
}

func TestSpoiledTrees(t *testing.T) { // P1, P2, P3
	chance := rand.New(rand.NewSource(74))
	came := map[api.Errno]int{}
	for i := range 4000 {
		l := copied(taken(t, chanceText(chance)))
		for range i % 3 {
			spoil(chance, l)
		}
		came[wantAnswers(t, l)]++
	}
	for _, e := range []api.Errno{api.OK, api.ErrTree, api.ErrText, api.ErrKids} {
		if came[e] < 100 {
			t.Error("error", e, "came", came[e], "times")
		}
	}
}

func TestNoneAndEmptyAreTheSame(t *testing.T) { // P3
	with := []api.Node{{Kind: api.NodeMerge, Kids: []int{}}, {Kind: api.NodeBlock, Kids: []int{0}}, {Kind: api.NodeFn, Text: "f", Kids: []int{1}}, {Kind: api.NodeRec, Text: "P", Kids: []int{}}, {Kind: api.NodeProgram, Kids: []int{3, 2}}}
	wantShown(t, with, "rec P {}\nfn f() {\n    merge();\n}\n")
	with[0].Kids, with[3].Kids = nil, nil
	wantShown(t, with, "rec P {}\nfn f() {\n    merge();\n}\n")
	wantLisp(t, with, "(1 (2 P) (3 f (4 (13))))")
}
