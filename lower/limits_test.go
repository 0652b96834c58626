package lower

import (
	"fmt"
	"math"
	"strings"
	"testing"

	"swath/api"
	"swath/check"
	"swath/ir"
	"swath/parse"
)

// part is a node with its kids, ahead of being laid into a list.
type part struct {
	kind int
	text string
	kids []*part
}

func of(kind int, text string, kids ...*part) *part { return &part{kind, text, kids} }

func lay(l *[]api.Node, p *part) int {
	var kids []int
	for _, k := range p.kids {
		kids = append(kids, lay(l, k))
	}
	*l = append(*l, api.Node{Kind: p.kind, Text: p.text, Kids: kids})
	return len(*l) - 1
}

// list lays a part's nodes as those of a description stand.
func list(p *part) []api.Node {
	var l []api.Node
	lay(&l, p)
	return l
}

func name(text string) *part      { return of(api.NodeName, text) }
func numPart() *part              { return of(api.NodeNum, "1") }
func blockOf(kids ...*part) *part { return of(api.NodeBlock, "", kids...) }
func returned(e *part) *part      { return of(api.NodeReturn, "", e) }
func repeated(p *part, n int) []*part {
	l := make([]*part, n)
	for i := range l {
		l[i] = p
	}
	return l
}

// whole is a description with a main of these statements, a record P with a field x, and a function f with a parameter.
func whole(statements ...*part) []api.Node {
	return list(of(api.NodeProgram, "", of(api.NodeRec, "P", name("x")), of(api.NodeFn, "f", name("a"), blockOf()), of(api.NodeFn, "main", blockOf(statements...))))
}

// nodesOfWhole is how many nodes whole has beside those of the statements.
const nodesOfWhole = 8

// kindsOfStatements are statements of each kind, as small as they may be, some greater.
func kindsOfStatements() map[string]*part {
	call := of(api.NodeCall, "f", numPart())
	none := of(api.NodeNone, "")
	merge := of(api.NodeMerge, "")
	set := func(place, value *part) *part { return of(api.NodeSet, "", place, value) }
	return map[string]*part{
		"set root": set(of(api.NodeRoot, ""), numPart()), "set root to root": set(of(api.NodeRoot, ""), of(api.NodeRoot, "")), "set field": set(of(api.NodeField, "x", of(api.NodeNull, "")), numPart()),
		"set element": set(of(api.NodeElem, "", of(api.NodeNull, ""), numPart()), numPart()), "if": of(api.NodeIf, "", numPart(), blockOf(), none), "if, else": of(api.NodeIf, "", numPart(), blockOf(), blockOf()),
		"if with a return": of(api.NodeIf, "", numPart(), blockOf(returned(numPart())), none), "if, else with statements": of(api.NodeIf, "", numPart(), blockOf(returned(numPart())), blockOf(of(api.NodeOut, "", numPart()))),
		"else alone": of(api.NodeIf, "", numPart(), blockOf(), blockOf(of(api.NodeOut, "", numPart()))), "while": of(api.NodeWhile, "", numPart(), blockOf()), "while with a merge": of(api.NodeWhile, "", numPart(), blockOf(merge)),
		"return": returned(numPart()), "out": of(api.NodeOut, "", numPart()), "stop": of(api.NodeStop, "", numPart()), "call": of(api.NodeDo, "", call),
		"new": of(api.NodeOut, "", of(api.NodeNew, "P")), "null": of(api.NodeOut, "", of(api.NodeNull, "")), "in": of(api.NodeOut, "", of(api.NodeIn, "")),
		"size": of(api.NodeOut, "", of(api.NodeSize, "")), "root": of(api.NodeOut, "", of(api.NodeRoot, "")), "calls": of(api.NodeOut, "", call), "promote": of(api.NodeOut, "", of(api.NodePromote, "", numPart())),
		"unary": of(api.NodeOut, "", of(api.NodeUnary, "-", numPart())), "binary": of(api.NodeOut, "", of(api.NodeBin, "+", numPart(), numPart())), "equal": of(api.NodeOut, "", of(api.NodeBin, "==", numPart(), numPart())),
		"field": of(api.NodeOut, "", of(api.NodeField, "x", numPart())), "element": of(api.NodeOut, "", of(api.NodeElem, "", numPart(), numPart())), "array": of(api.NodeOut, "", of(api.NodeArr, "", numPart())),
		"length": of(api.NodeOut, "", of(api.NodeLen, "", numPart())), "image": of(api.NodeOut, "", of(api.NodeImg, "", numPart())),
	}
}

// TestShortOfEachKind has functions with none, one, few and as many as may be of each kind of statement and of expression: made wants at
// most five instructions for each node and ten more.
func TestShortOfEachKind(t *testing.T) { // P11.1, P11.2
	for kind, p := range kindsOfStatements() {
		most := (api.MaxNodes - nodesOfWhole) / len(list(p))
		for _, times := range []int{0, 1, 2, 3, 10, most} {
			l := whole(repeated(p, times)...)
			c := made(t, l)
			if times == most && (len(l) <= api.MaxNodes-len(list(p)) || len(c.Funcs[1].Code) < most || len(c.Funcs[1].Code) > maxCode) {
				t.Error(kind, len(l), len(c.Funcs[1].Code))
			}
			wantSame(t, l, c, given{nil, []int64{1, 2}, api.Limits{Fuel: 200, Depth: 2, Cells: 50}})
		}
	}
	for _, vars := range []int{0, 1, 99, 100} {
		codeOf(t, "fn main() { "+numbered("let v# = #; ", 0, vars)+"}")
		codeOf(t, "fn f("+strings.TrimSuffix(numbered("v#, ", 0, vars), ", ")+") { } fn main() { }")
	}
}

// TestOnlyEndOfAnEmptyFunction has functions without statements, which have three nodes and more.
func TestOnlyEndOfAnEmptyFunction(t *testing.T) { // P11.1, P11.3
	c := codeOf(t, "fn f(a, b) { } fn main() { }")
	for _, f := range c.Funcs {
		if len(f.Code) > 25 || f.Code[len(f.Code)-1].Op != api.InsRet {
			t.Error(ir.Show(f))
		}
	}
	wantSteps(t, "fn f(a, b) { } fn main() { return f(null, 5); }", wide)
}

// balanced is an expression of sums with so many leaves, as shallow as it may be.
func balanced(leaf *part, leaves int) *part {
	if leaves == 1 {
		return leaf
	}
	return of(api.NodeBin, "-", balanced(leaf, leaves/2), balanced(leaf, leaves-leaves/2))
}

func TestGreatExpressions(t *testing.T) { // P11.1, P11.2, P11.3
	for _, leaf := range []*part{numPart(), of(api.NodeIn, ""), of(api.NodeCall, "f", numPart()), of(api.NodeSize, "")} {
		most := (api.MaxNodes - nodesOfWhole) / (1 + len(list(leaf)))
		for _, leaves := range []int{1, 2, 100, most} {
			l := whole(returned(balanced(leaf, leaves)))
			wantSame(t, l, made(t, l), given{[]int64{1}, make([]int64, most), api.Limits{Fuel: 100, Depth: 2}})
		}
	}
	// As deep as may be, on either side.
	for _, side := range []int{0, 1} {
		p := numPart()
		for range api.MaxDeep - 5 {
			kids := []*part{numPart(), numPart()}
			kids[side] = p
			p = of(api.NodeBin, "-", kids...)
		}
		l := whole(returned(p))
		c := made(t, l)
		wantSame(t, l, c, wide)
		// From the left two registers are enough.
		if side == 0 && c.Funcs[1].Regs != 2 {
			t.Error(c.Funcs[1].Regs)
		}
	}
	nested := strings.Repeat("if 1 { while 1 { ", 45) + "return 5;" + strings.Repeat(" } }", 45)
	wantBodies(t, nested, strings.ReplaceAll(nested, "while 1 {", "while 1 { merge();"))
}

// registersOf is a description with a main that needs so many registers: calls within one another whose arguments ahead are read
// from the input, so that none can be made later.
func registersOf(registers int) string {
	const each = 99
	levels := (registers - 1) / each
	last := registers - levels*each
	e := "g(" + strings.Repeat("in(), ", last-1) + "in())"
	for range levels {
		e = "f(" + strings.Repeat("in(), ", each) + e + ")"
	}
	return "fn main() { return " + e + "; } fn f(" + strings.TrimSuffix(numbered("p#, ", 0, each+1), ", ") + ") { return p0 + p98 * p99; } fn g(" + strings.TrimSuffix(numbered("p#, ", 0, last), ", ") + ") { return p0; }"
}

func TestRegisters(t *testing.T) { // P11.1
	for _, registers := range []int{1, 2, 99, 100, 101, 500, 998, 999, 1000} {
		l := nodes(t, registersOf(registers))
		c := made(t, l)
		if c.Funcs[0].Regs != registers {
			t.Error(c.Funcs[0].Regs, "registers of", registers)
		}
		input := make([]int64, registers)
		for n := range input {
			input[n] = int64(n*n) - 7
		}
		wantSame(t, l, c, given{nil, input, wide.lim})
	}
	for _, registers := range []int{1001, 1002, 1100, 2000, 9000} {
		wantTooLong(t, registersOf(registers))
	}
	// Wherever the function stands.
	long := strings.Replace(registersOf(1001), "main", "long", 1)
	wantTooLong(t, long+" fn main() { }")
	wantTooLong(t, "fn main() { return 1; } "+long)
	// That it isn't taken is named first.
	s := registersOf(1001) + " fn h() { return v; }"
	l, _, _ := parse.Program(s)
	wantRefused(t, l, strings.LastIndex(s, "v"), api.ErrScope)
}

func wantTooLong(t *testing.T, s string) {
	t.Helper()
	if c, at, e := Code(nodes(t, s)); !isNone(c) || at != 0 || e != api.ErrLong {
		t.Errorf("Code is %.300v, %d, %d; wanted %d, %d", c, at, e, 0, api.ErrLong)
	}
}

// TestVariablesNeedRegisters has as many variables as may be beside values that wait.
func TestVariablesNeedRegisters(t *testing.T) { // P11.1
	ahead := "fn main() { " + numbered("let v# = 1; ", 0, 100)
	l := strings.Replace(registersOf(900), "fn main() { ", ahead, 1)
	if c := codeOf(t, l); c.Funcs[0].Regs != 1000 {
		t.Error(c.Funcs[0].Regs)
	}
	wantTooLong(t, strings.Replace(registersOf(901), "fn main() { ", ahead, 1))
	// Those of blocks that are over need none, nor do values that wait no more; names are read where they are.
	blocks := strings.Replace(registersOf(990), "fn main() { ", "fn main() { "+numbered("if 1 { let v# = 1; out v#; } ", 0, 100), 1)
	codeOf(t, blocks)
	codeOf(t, strings.Replace(registersOf(1000), "fn main() { ", "fn main() { out 1 + (2 + 3); ", 1))
	waiting := "f(" + strings.Repeat("v, ", 99) + "v)"
	for range 30 {
		waiting = "f(" + strings.Repeat("v, ", 99) + waiting + ")"
	}
	codeOf(t, "fn main() { let v = 1; return "+waiting+"; } fn f("+strings.TrimSuffix(numbered("p#, ", 0, 100), ", ")+") { }")
	// The first argument waits for none.
	first := "f(" + strings.Repeat("in(), ", 99) + "in())"
	for range 100 {
		first = "f(" + first + strings.Repeat(", in()", 99) + ")"
	}
	codeOf(t, "fn main() { return "+first+"; } fn f("+strings.TrimSuffix(numbered("p#, ", 0, 100), ", ")+") { }")
}

// TestNeverTooLongBelow800Nodes has functions of fewer than 800 nodes with as many values that wait as can be.
func TestNeverTooLongBelow800Nodes(t *testing.T) { // P11.1
	for _, each := range []int{1, 2, 3, 10, 50, 99} {
		// A call has itself and its arguments; behind all others waits one more call.
		levels := min((799-8)/(each+1), 145)
		e := "in()"
		for range levels {
			e = "f(" + strings.Repeat("in(), ", each) + e + ")"
		}
		l := nodes(t, "fn main() { return "+e+"; } fn f("+strings.TrimSuffix(numbered("p#, ", 0, each+1), ", ")+") { }")
		c := made(t, l)
		if nodes := len(within(l, functionNode(t, l, "main"))); nodes >= 800 || c.Funcs[0].Regs > nodes {
			t.Error(each, nodes, c.Funcs[0].Regs)
		}
	}
	// With variables beside them.
	body := numbered("let v# = in(); ", 0, 99)
	e := "in()"
	for range 5 {
		e = "f(" + strings.Repeat("in(), ", 99) + e + ")"
	}
	l := nodes(t, "fn main() { "+body+"return "+e+"; } fn f("+strings.TrimSuffix(numbered("p#, ", 0, 100), ", ")+") { }")
	c := made(t, l)
	if nodes := len(within(l, functionNode(t, l, "main"))); nodes >= 800 || nodes < 700 || c.Funcs[0].Regs < 590 {
		t.Error(nodes, c.Funcs[0].Regs)
	}
}

func functionNode(t *testing.T, l []api.Node, name string) int {
	t.Helper()
	d, _, e := check.Program(l)
	for _, f := range d.Fns {
		if f.Name == name {
			return f.Node
		}
	}
	t.Fatal("no function", name, e)
	return 0
}

// TestTooLong has functions just at the limits. No description comes to so many instructions: the shortest statements, of two nodes, have three.
func TestTooLong(t *testing.T) { // P11.1
	for _, x := range []struct {
		regs, code int
		long       bool
	}{{0, 1, false}, {1000, 100000, false}, {1001, 1, true}, {1, 100001, true}, {1001, 100001, true}, {math.MaxInt, 1, true}} {
		f := api.Func{Regs: x.regs, Code: make([]api.Ins, x.code)}
		if tooLong(f) != x.long {
			t.Error(x)
		}
	}
	c := made(t, whole(repeated(of(api.NodeOut, "", numPart()), (api.MaxNodes-nodesOfWhole)/2)...))
	if got := len(c.Funcs[1].Code); got < 74900 || got > maxCode {
		t.Error(fmt.Sprint(got))
	}
}
