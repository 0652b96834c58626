package parse

import (
	"slices"
	"strings"
	"testing"
	"unsafe"

	"swath/api"
	"swath/tree"
)

func times(s string, n int) string { return strings.Repeat(s, n) }

// nested is a way in which brackets may stand within one another: what stands ahead, within all, and behind.
type nested struct {
	open   string
	inner  string
	closed string
}

var ways = []nested{
	{"(", "1", ")"}, {"x[", "1", "]"}, {"f(", "1", ")"}, {"f(1, ", "1", ")"}, {"arr(", "1", ")"}, {"len(", "x", ")"}, {"img(", "x", ")"}, {"promote(", "x", ")"}, {"-(", "x", ")"}, {"1 + (", "x", ")"},
}

// within is an expression in that many brackets.
func within(way nested, brackets int) string {
	return times(way.open, brackets) + way.inner + times(way.closed, brackets)
}

func TestBracketsOfEachSign(t *testing.T) { // P6.1
	const ahead = "fn f() { return "
	for _, way := range ways {
		// The function's own bracket is open about them.
		taken(t, ahead+within(way, 149)+"; }")
		last := len(ahead) + 149*len(way.open) + strings.IndexAny(way.open, "([")
		for _, more := range []int{150, 151, 1000} {
			wantFault(t, ahead+within(way, more)+"; }", last, api.ErrDeep)
		}
	}
	// Blocks within one another have two nodes each, so that they are too deep ahead of that; but which error it is shows.
	for _, open := range []string{"if 1 {", "while 1 {"} {
		wantFault(t, "fn f() {"+times(open, 149)+times("}", 150), 0, api.ErrDeep)
		wantFault(t, "fn f() {"+times(open, 150)+times("}", 151), 7+150*len(open), api.ErrDeep)
		taken(t, "fn f() {"+times(open, 98)+times("}", 99))
	}
	wantFault(t, "fn f() {"+times("if 1 {} else {", 150)+times("}", 151), 8+149*len("if 1 {} else {")+len("if 1 "), api.ErrDeep)
}

func TestBracketsMixed(t *testing.T) { // P6.1
	// 30 blocks, then by threes: an element, a call, brackets.
	ahead := "fn f() {" + times("if 1 {", 29)
	mixed := func(threes, more int) string {
		return ahead + "x[" + times("(f(x[", threes) + times("(", more) + "1" + times(")", more) + times("]))", threes) + "] = 1;" + times("}", 30)
	}
	taken(t, mixed(39, 2))
	wantFault(t, mixed(39, 3), len(ahead)+2+39*5+2, api.ErrDeep)
	wantFault(t, mixed(40, 0), len(ahead)+2+39*5+4, api.ErrDeep)
	// Brackets that are closed again don't count, however many there are.
	taken(t, "fn f() { return "+times("(1) + ", 190)+"1; }")
	taken(t, "fn f() { "+times("f(x[0]);", 1000)+"}")
	taken(t, times("rec P {}", 300)+times("fn f() { if 1 {} else {} }", 300))
	taken(t, "fn f() { "+times("return "+within(ways[0], 149)+";", 5)+"}")
	// No other sign counts, nor what stands in notes and between quotes.
	taken(t, "fn f() { return '(' + '[' + '{' ; "+times("// ({[\n", 200)+" }")
}

// What is no description has its brackets counted, too: this error is named first.
func TestBracketsAheadOfWhatIsWrong(t *testing.T) { // P6.1
	for _, open := range []string{"(", "[", "{", "([{", "{([", "[[("} {
		many := times(open, 151)[:151]
		for _, ahead := range []string{"", "x ", "1;", "fn ", "fn f(x,,y) ; ", "let rec fn ", "= = ", ")", "]", "}", ")]})]}", "() [] {} ", "()) ", "(]", "{)] "} {
			for _, behind := range []string{"", " x", ";", " rec P", times(")", 151), "= 1 2 3", " let"} {
				wantFault(t, ahead+many+behind, len(ahead)+150, api.ErrDeep)
				if at, e := place(ahead + many[1:] + behind); e != api.ErrSyntax {
					t.Errorf("%s, 150 brackets, %s: %d, %d", ahead, behind, at, e)
				}
			}
		}
	}
	// A token that is wrong between those brackets.
	wantFault(t, "fn f() { return "+times("(", 100)+" ; let "+times("(", 60), 16+100+7+49, api.ErrDeep)
	wantFault(t, "fn f() { return "+times("(", 100)+" ; let "+times("(", 49), 16+100+1, api.ErrSyntax)
	// Wrong behind the last bracket that may be, ahead of it, and behind one that may not.
	wantFault(t, "fn f() { return "+times("(", 149)+";", 16+149, api.ErrSyntax)
	wantFault(t, "fn f() { return 1 "+times("(", 149), 18, api.ErrSyntax)
	wantFault(t, "fn f() { return 1 "+times("(", 150), 18+149, api.ErrDeep)
	wantFault(t, "fn f() { return "+times("(", 150)+";", 16+149, api.ErrDeep)
}

func place(s string) (int, api.Errno) {
	_, at, e := Program(s)
	return at, e
}

// arguments is a description of just n nodes, 6 of them or more: a call with many arguments.
func arguments(n int) string {
	return "fn f() { f(x" + times(",x", n-6) + "); }"
}

func TestNodes(t *testing.T) { // P6.1
	for _, n := range []int{6, 7, 100, api.MaxNodes - 1, api.MaxNodes} {
		if l := taken(t, arguments(n)); len(l) != n {
			t.Error(n, "nodes are", len(l))
		}
	}
	for _, n := range []int{api.MaxNodes + 1, api.MaxNodes + 2, 90000} {
		wantFault(t, arguments(n), 0, api.ErrLong)
	}
	// Nodes of each sort count: NodeNone (an if is five nodes with its number), blocks, records with their fields.
	ifs := func(n int, more string) string { return "fn f(){" + times("if 1{}", n) + more + "}" }
	if l := taken(t, ifs(12499, "merge();")); len(l) != api.MaxNodes {
		t.Error(len(l))
	}
	wantFault(t, ifs(12499, "merge();merge();"), 0, api.ErrLong)
	wantFault(t, ifs(12500, ""), 0, api.ErrLong)
	if l := taken(t, "rec P{a"+times(",a", api.MaxNodes-3)+"}"); len(l) != api.MaxNodes {
		t.Error(len(l))
	}
	wantFault(t, "rec P{a"+times(",a", api.MaxNodes-2)+"}", 0, api.ErrLong)
	// Brackets leave none.
	if l := taken(t, "fn f() { f("+times("((x)),", 20000)+"x); }"); len(l) != 20006 {
		t.Error(len(l))
	}
}

func TestDeepOnes(t *testing.T) { // P6.1
	// Program, function, block and return stand about the expression: 196 nodes are left for it.
	for name, s := range map[string]func(n int) string{
		"signs":      func(n int) string { return times("-", n-1) + "x" },
		"signs, too": func(n int) string { return times("!", n/2) + times("~", n-1-n/2) + "1" },
		"fields":     func(n int) string { return "x" + times(".a", n-1) },
		"elements":   func(n int) string { return "x" + times("[0]", n-1) },
		"sums":       func(n int) string { return "x" + times("+x", n-1) },
		"products":   func(n int) string { return "x" + times("*x", n-1) },
		"shifts":     func(n int) string { return "x" + times("<<x", n-1) },
		"or":         func(n int) string { return "x" + times("|x", n-1) },
	} {
		for _, n := range []int{1, 2, 195, 196} {
			l := taken(t, "fn f() { return "+s(n)+"; }")
			if deep := tree.Deep(l); deep != n+4 {
				t.Error(name, n, deep)
			}
		}
		for _, n := range []int{197, 198, 1000, 10000} {
			wantFault(t, "fn f() { return "+s(n)+"; }", 0, api.ErrDeep)
		}
	}
	// Blocks and brackets in all.
	blocks := "fn f() {" + times("if 1 {", 90) + "x = "
	taken(t, blocks+times("-", 15)+"x;"+times("}", 91))
	wantFault(t, blocks+times("-", 16)+"x;"+times("}", 91), 0, api.ErrDeep)
	// Brackets stand for no depth of nodes.
	taken(t, "fn f() { return "+times("-", 195)+times("(", 149)+"x"+times(")", 149)+"; }")
}

func TestFirstOfSeveralErrors(t *testing.T) { // P6.1
	const open = "fn f() { return "
	long := times(" ", api.MaxSource)
	brackets := times("(", 151)
	manyNodes := arguments(api.MaxNodes + 1)
	deep := open + times("-", 300) + "1; }"
	for _, x := range []struct {
		s  string
		at int
		e  api.Errno
	}{
		{"@" + long + "12a" + brackets, 0, api.ErrLong},
		{brackets + " ; " + deep + manyNodes + "@" + " 12a", 151 + 3 + len(deep) + len(manyNodes), api.ErrToken},
		{brackets + " ; " + deep + manyNodes + " 12a @", 151 + 3 + len(deep) + len(manyNodes) + 1, api.ErrNumber},
		{"; " + manyNodes + deep + brackets, 2 + len(manyNodes) + len(deep) + 150, api.ErrDeep},
		{manyNodes + deep + "; ;", len(manyNodes) + len(deep), api.ErrSyntax},
		{deep + "let", len(deep), api.ErrSyntax},
		{manyNodes + "let", len(manyNodes), api.ErrSyntax},
		{"let " + manyNodes, 0, api.ErrSyntax},
		{manyNodes + deep, 0, api.ErrLong},
		{deep + manyNodes, 0, api.ErrLong},
		{deep, 0, api.ErrDeep},
		{"fn f( { fn ( ]", 6, api.ErrSyntax},
		{"@ '", 0, api.ErrToken},
		{"' @", 0, api.ErrNumber},
	} {
		wantFault(t, x.s, x.at, x.e)
	}
}

func TestLongOnes(t *testing.T) { // P6.1
	for _, s := range []string{"", "fn f() {}", "fn f() { return 1; } //"} {
		taken(t, s+times(" ", api.MaxSource-len(s)))
		wantFault(t, s+times(" ", api.MaxSource+1-len(s)), 0, api.ErrLong)
	}
	wantFault(t, times("x", api.MaxSource), 0, api.ErrSyntax)
	wantFault(t, "fn "+times("x", api.MaxSource-3), api.MaxSource, api.ErrSyntax)
	name := times("x", api.MaxSource-9)
	if l := taken(t, "rec "+name+" {}  "); l[0].Text != name {
		t.Error("a long name comes out otherwise")
	}
	// As long as may be of what goes on without end.
	for _, piece := range []string{"-", "~", "1+", "x.", "f(", "(", "x[", "{", "fn f(){", "if x{", "else", "rec P{}", "x,", "x<", ")", "1", "'", "//", "\n", "f()", "!-"} {
		for _, ahead := range []string{"", "fn f() {", "fn f() { return f("} {
			s := ahead + times(piece, (api.MaxSource-len(ahead))/len(piece))
			l, at, e := Program(s)
			if e == api.OK {
				wantGood(t, s, l)
			} else if l != nil || at < 0 || at > len(s) {
				t.Errorf("%s and many %s: %d nodes, %d, %d", ahead, piece, len(l), at, e)
			}
		}
	}
	// Ends, though it can't be told by calls within one another.
	wantFault(t, "fn f() { return "+times("-", 199000)+"1; }", 0, api.ErrLong)
	wantFault(t, "fn f() { return "+times("-", 199000)+"; }", 16+199000, api.ErrSyntax)
}

func copied(l []api.Node) []api.Node {
	l = slices.Clone(l)
	for i := range l {
		l[i].Kids = slices.Clone(l[i].Kids)
	}
	return l
}

func equal(a, b []api.Node) bool { return slices.EqualFunc(a, b, alike) }

// What is answered is new: writing over it, up to where its memory goes, changes nothing else.
func TestMemory(t *testing.T) { // P2
	s := "rec P {x, y}\nfn main(a, b) { let p = new P; p.x = -1 + 2 * 3; while p.x < 4 { merge(p); p.y = arr(2)[0]; } if !p { f(a, b, 1); } else { (root) = null; } return f(1, 'a'); }"
	kept := strings.Clone(s)
	first := taken(t, s)
	second := taken(t, s)
	want := copied(first)
	if !equal(first, second) {
		t.Fatal("two calls answer two trees")
	}
	from := uintptr(unsafe.Pointer(unsafe.StringData(s)))
	for i := range first {
		if at := uintptr(unsafe.Pointer(unsafe.StringData(first[i].Text))); first[i].Text != "" && from <= at && at < from+uintptr(len(s)) {
			t.Errorf("%q lies in the description", first[i].Text)
		}
		all := first[i].Kids[:cap(first[i].Kids)]
		for k := range all {
			all[k] = -7
		}
		first[i].Kids = want[i].Kids
		if !equal(first, want) || !equal(second, want) {
			t.Fatalf("the kids of node %d are others', too", i)
		}
	}
	for i := range first[:cap(first)] {
		first[:cap(first)][i] = api.Node{Kind: 99}
	}
	if !equal(second, want) || s != kept {
		t.Error("what was answered was used elsewhere")
	}
	if third := taken(t, s); !equal(third, want) {
		t.Error("a later call answers another tree")
	}
	wantFault(t, s+"}", len(s), api.ErrSyntax)
	if fourth := taken(t, s); !equal(fourth, want) {
		t.Error("a call behind a fault answers another tree")
	}
}

func TestZeroFields(t *testing.T) { // P6
	for _, s := range []string{"", "rec P {}", "fn f() { if in() { merge(); f(); } return size() + null; }"} {
		for _, node := range taken(t, s) {
			if len(node.Kids) == 0 && node.Kids != nil {
				t.Errorf("%s: a node of kind %d has kids, but none", s, node.Kind)
			}
		}
	}
}
