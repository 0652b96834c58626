package show

import (
	"math/rand"
	"slices"
	"strings"
	"testing"

	"swath/api"
	"swath/parse"
)

// operators stand by the grammar's lines, those that bind the least tightly first.
var operators = [][]string{{"==", "!=", "<", "<="}, {"|", "^"}, {"&"}, {"<<", ">>"}, {"+", "-"}, {"*", "/", "%"}}

var signs = []string{"-", "!", "~"}

// part is a node with its kids, ahead of being laid into a list.
type part struct {
	kind int
	text string
	kids []part
}

func of(kind int, text string, kids ...part) part { return part{kind, text, kids} }

func num(text string) part                 { return of(api.NodeNum, text) }
func name(text string) part                { return of(api.NodeName, text) }
func sign(text string, e part) part        { return of(api.NodeUnary, text, e) }
func bin(left part, o string, r part) part { return of(api.NodeBin, o, left, r) }
func field(e part, text string) part       { return of(api.NodeField, text, e) }
func elem(e, index part) part              { return of(api.NodeElem, "", e, index) }
func block(kids ...part) part              { return of(api.NodeBlock, "", kids...) }
func none() part                           { return of(api.NodeNone, "") }

// within is a whole tree with statements as the body of its one function.
func within(kids ...part) part {
	return of(api.NodeProgram, "", of(api.NodeFn, "f", block(kids...)))
}

func lay(l *[]api.Node, p part) int {
	var kids []int
	for _, k := range p.kids {
		kids = append(kids, lay(l, k))
	}
	*l = append(*l, api.Node{Kind: p.kind, Text: p.text, Kids: kids})
	return len(*l) - 1
}

// list lays a part's nodes in the order in which those of a description stand.
func list(p part) []api.Node {
	var l []api.Node
	lay(&l, p)
	return l
}

// scattered is a tree with its nodes in another order and at other places.
func scattered(chance *rand.Rand, l []api.Node) []api.Node {
	missing := make([]int, len(l))
	up := make([]int, len(l))
	var ready []int
	for i, n := range l {
		missing[i] = len(n.Kids)
		for _, k := range n.Kids {
			up[k] = i
		}
		if len(n.Kids) == 0 {
			ready = append(ready, i)
		}
	}
	number := make([]int, len(l))
	var all []api.Node
	for len(ready) > 0 {
		x := chance.Intn(len(ready))
		i := ready[x]
		ready = slices.Delete(ready, x, x+1)
		number[i] = len(all)
		n := api.Node{Kind: l[i].Kind, Text: l[i].Text, At: chance.Intn(3) * chance.Intn(1000)}
		for _, k := range l[i].Kids {
			n.Kids = append(n.Kids, number[k])
		}
		all = append(all, n)
		if missing[up[i]]--; missing[up[i]] == 0 {
			ready = append(ready, up[i])
		}
	}
	return all
}

func wantShown(t *testing.T, l []api.Node, want string) {
	t.Helper()
	if s, e := Program(l); s != want || e != api.OK {
		t.Errorf("is shown as\n%.2000s%d; wanted\n%.2000s", s, e, want)
	}
}

// wantProgram wants a tree to be shown as that, and to be read from it.
func wantProgram(t *testing.T, p part, want string) {
	t.Helper()
	l := list(p)
	wantShown(t, l, want)
	wantRead(t, want, l)
}

// wantBody wants statements as the body of a function to be shown as those lines.
func wantBody(t *testing.T, want string, kids ...part) {
	t.Helper()
	lines := ""
	for _, line := range strings.Split(want, "\n") {
		lines += "    " + line + "\n"
	}
	wantProgram(t, within(kids...), "fn f() {\n"+lines+"}\n")
}

// wantExpression wants an expression to be shown as that wherever any may stand.
func wantExpression(t *testing.T, e part, want string) {
	t.Helper()
	for form, p := range map[string]part{
		"let v = %;":      of(api.NodeLet, "v", e),
		"x = %;":          of(api.NodeSet, "", name("x"), e),
		"x[%] = 1;":       of(api.NodeSet, "", elem(name("x"), e), num("1")),
		"if % {\n}":       of(api.NodeIf, "", e, block(), none()),
		"while % {\n}":    of(api.NodeWhile, "", e, block()),
		"return %;":       of(api.NodeReturn, "", e),
		"out %;":          of(api.NodeOut, "", e),
		"stop %;":         of(api.NodeStop, "", e),
		"g(%);":           of(api.NodeDo, "", of(api.NodeCall, "g", e)),
		"g(%, 1, %);":     of(api.NodeDo, "", of(api.NodeCall, "g", e, num("1"), e)),
		"out x[%];":       of(api.NodeOut, "", elem(name("x"), e)),
		"out arr(%);":     of(api.NodeOut, "", of(api.NodeArr, "", e)),
		"out len(%);":     of(api.NodeOut, "", of(api.NodeLen, "", e)),
		"out img(%);":     of(api.NodeOut, "", of(api.NodeImg, "", e)),
		"out promote(%);": of(api.NodeOut, "", of(api.NodePromote, "", e)),
	} {
		wantBody(t, strings.ReplaceAll(form, "%", want), p)
	}
}

// expressionTree is the tree of an expression, as what a function returns.
func expressionTree(e part) []api.Node { return list(within(of(api.NodeReturn, "", e))) }

// wantLeast wants an expression to be shown bare if parentheses are needless, else parted by them; and holds that against what the bare text is read as.
func wantLeast(t *testing.T, e part, bare, parted string, needless bool) {
	t.Helper()
	want := parted
	if needless {
		want = bare
	}
	wantExpression(t, e, want)
	if l, _, _ := parse.Program("fn f() { return " + bare + "; }"); sameNodes(l, expressionTree(e)) != needless {
		t.Errorf("whether %s needs parentheses isn't what the grammar says", bare)
	}
}

// sameNodes tells whether lists are alike, places aside.
func sameNodes(a, b []api.Node) bool {
	return slices.EqualFunc(a, b, func(x, y api.Node) bool {
		return x.Kind == y.Kind && x.Text == y.Text && slices.Equal(x.Kids, y.Kids)
	})
}

// wantRead wants a description to be read as those nodes.
func wantRead(t *testing.T, s string, want []api.Node) {
	t.Helper()
	if l, at, e := parse.Program(s); e != api.OK || !sameNodes(l, want) {
		t.Errorf("isn't read as the tree that was shown: %d, %d of\n%.2000s", at, e, s)
	}
}

// taken is the tree of a description that is to be taken.
func taken(t *testing.T, s string) []api.Node {
	t.Helper()
	l, at, e := parse.Program(s)
	if e != api.OK {
		t.Fatalf("%d, %d of\n%.2000s", at, e, s)
	}
	return l
}
