package parse

import (
	"regexp"
	"slices"
	"strconv"
	"strings"
	"testing"

	"swath/api"
	"swath/lex"
	"swath/tree"
)

var (
	words = strings.Fields("rec fn let if else while return out stop merge promote new arr len in img size null root")
	signs = strings.Fields("( ) { } [ ] , ; . = + - * / % << >> & | ^ == != < <= ! ~")
	// operators stand by the grammar's lines, those that bind the least tightly first.
	operators = [][]string{{"==", "!=", "<", "<="}, {"|", "^"}, {"&"}, {"<<", ">>"}, {"+", "-"}, {"*", "/", "%"}}
	// called has the kinds' names at their numbers.
	called = strings.Fields("- program rec fn block let set if while return out stop do merge none num null name unary bin field elem call new arr len in img size promote root")
)

// told writes a node down: names and numbers as they are, all others in brackets with their kids behind.
func told(l []api.Node, n int) string {
	node := l[n]
	s := called[node.Kind] + " " + node.Text
	switch node.Kind {
	case api.NodeName, api.NodeNum:
		return node.Text
	case api.NodeUnary, api.NodeBin:
		s = node.Text
	case api.NodeField:
		s = "." + node.Text
	}
	return "(" + strings.TrimSpace(strings.TrimSpace(s)+" "+toldAll(l, node.Kids)) + ")"
}

func toldAll(l []api.Node, kids []int) string {
	var all []string
	for _, k := range kids {
		all = append(all, told(l, k))
	}
	return strings.Join(all, " ")
}

// taken is the tree of a description that is to be taken; with its own test of what is promised of all that are.
func taken(t *testing.T, s string) []api.Node {
	t.Helper()
	l, at, e := Program(s)
	if e != api.OK || at != 0 {
		t.Fatalf("%.300q is refused: %d, %d", s, at, e)
	}
	wantGood(t, s, l)
	return l
}

// wantGood wants a tree with kids ahead of those that have them, one part behind the other, and all places as P6.2 says.
func wantGood(t *testing.T, s string, l []api.Node) {
	t.Helper()
	if n, e := tree.Check(l); n != 0 || e != api.OK {
		t.Fatalf("%.300q: node %d is wrong: %d", s, n, e)
	}
	for n, node := range l {
		if node.At < 0 || node.At > len(s) {
			t.Fatalf("%.300q: node %d stands at %d", s, n, node.At)
		}
		at, name := node.At, node.Text
		switch node.Kind {
		case api.NodeField:
			l, _, _ := lex.Scan(s[at:])
			at += l[1].From
		case api.NodeRec, api.NodeFn, api.NodeLet, api.NodeNew, api.NodeName, api.NodeCall:
		default:
			continue
		}
		if nameAt.FindString(s[at:]) != name {
			t.Fatalf("%.300q: %s of node %d doesn't stand at %d", s, name, n, at)
		}
	}
	if behind := inOrder(l, len(l)-1, 0); behind != len(l) {
		t.Fatalf("%.300q: of %d nodes %d stand in order", s, len(l), behind)
	}
}

var nameAt = regexp.MustCompile(`^[a-zA-Z_][a-zA-Z0-9_]*`)

// inOrder is how many nodes stand ahead of and at node n, if those within it begin at from, one kid behind the other; else -1.
func inOrder(l []api.Node, n, from int) int {
	for _, k := range l[n].Kids {
		if from = inOrder(l, k, from); from != k+1 {
			return -1
		}
	}
	if from != n {
		return -1
	}
	return n + 1
}

// wantBody wants statements as the body of a function to be taken as what is told.
func wantBody(t *testing.T, body, want string) {
	t.Helper()
	l := taken(t, "fn f() {"+body+"}")
	if got := toldAll(l, l[len(l)-3].Kids); got != want {
		t.Errorf("%s is %s; wanted %s", body, got, want)
	}
}

// wantExpression wants an expression to be taken as what is told, wherever one may stand.
func wantExpression(t *testing.T, s, want string) {
	t.Helper()
	for _, x := range [][2]string{
		{"let v = %;", "(let v %)"}, {"x = %;", "(set x %)"}, {"if % {}", "(if % (block) (none))"}, {"while % {}", "(while % (block))"},
		{"return %;", "(return %)"}, {"out %;", "(out %)"}, {"stop %;", "(stop %)"}, {"g(%, %);", "(do (call g % %))"},
		{"out x[%];", "(out (elem x %))"}, {"x[%] = 0;", "(set (elem x %) 0)"}, {"out (%);", "(out %)"},
		{"out arr(%);", "(out (arr %))"}, {"out len(%);", "(out (len %))"}, {"out img(%);", "(out (img %))"}, {"out promote(%);", "(out (promote %))"},
	} {
		wantBody(t, strings.ReplaceAll(x[0], "%", s), strings.ReplaceAll(x[1], "%", want))
	}
}

func wantFault(t *testing.T, s string, at int, e api.Errno) {
	t.Helper()
	if l, gotAt, got := Program(s); l != nil || gotAt != at || got != e {
		t.Errorf("Program(%.300q) is %d nodes, %d, %d; wanted none, %d, %d", s, len(l), gotAt, got, at, e)
	}
}

// wantRefused wants the token ahead of which a @ stands to be the one with which no description goes on.
func wantRefused(t *testing.T, marked string) {
	t.Helper()
	ahead, behind, ok := strings.Cut(marked, "@")
	if !ok {
		t.Fatal("no place is marked in", marked)
	}
	wantFault(t, ahead+behind, len(ahead), api.ErrSyntax)
}

// wantBodyRefused wants it of what stands in a function, and that what stands ahead of the mark may go on, but not end.
func wantBodyRefused(t *testing.T, marked string) {
	t.Helper()
	wantRefused(t, "fn f() { "+marked+" }")
	ahead, _, _ := strings.Cut("fn f() { "+marked, "@")
	wantRefused(t, ahead+"@")
}

// unmarked is a description without its marks, and the places at which @0, @1, .. stand.
func unmarked(marked string) (string, map[int]int) {
	places := map[int]int{}
	s := ""
	for i, piece := range strings.Split(marked, "@") {
		if i > 0 {
			digits := 0
			for digits < len(piece) && '0' <= piece[digits] && piece[digits] <= '9' {
				digits++
			}
			n, _ := strconv.Atoi(piece[:digits])
			places[n] = len(s)
			// A : parts a mark from a number behind it.
			piece = strings.TrimPrefix(piece[digits:], ":")
		}
		s += piece
	}
	return s, places
}

// wantPlaces wants each node to stand where its number is marked, and those that aren't marked at 0.
func wantPlaces(t *testing.T, marked string) {
	t.Helper()
	s, places := unmarked(marked)
	l := taken(t, s)
	for n, node := range l {
		if node.At != places[n] {
			t.Errorf("%s: node %d, %s, stands at %d; wanted %d", s, n, told(l, n), node.At, places[n])
		}
	}
	for n := range places {
		if n >= len(l) {
			t.Errorf("%s has no node %d", s, n)
		}
	}
}

func everyOperator() []string { return slices.Concat(operators...) }

// lineIs is the line of an operator.
func lineIs(operator string) int {
	return slices.IndexFunc(operators, func(line []string) bool { return slices.Contains(line, operator) })
}
