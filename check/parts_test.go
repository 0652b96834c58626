package check

import (
	"math/rand"
	"slices"
	"strings"
	"testing"

	"swath/api"
	"swath/parse"
)

// part is a node with its kids, ahead of being laid into a list.
type part struct {
	kind int
	text string
	kids []*part
}

func of(kind int, text string, kids ...*part) *part { return &part{kind, text, kids} }

func num(text string) *part     { return of(api.NodeNum, text) }
func name(text string) *part    { return of(api.NodeName, text) }
func none() *part               { return of(api.NodeNone, "") }
func block(kids ...*part) *part { return of(api.NodeBlock, "", kids...) }
func promote(e *part) *part     { return of(api.NodePromote, "", e) }
func returned(e *part) *part    { return of(api.NodeReturn, "", e) }

// program is a whole tree with statements as the body of its one function.
func program(kids ...*part) *part {
	return of(api.NodeProgram, "", of(api.NodeFn, "main", block(kids...)))
}

func lay(l *[]api.Node, p *part) int {
	var kids []int
	for _, k := range p.kids {
		kids = append(kids, lay(l, k))
	}
	*l = append(*l, api.Node{Kind: p.kind, Text: p.text, Kids: kids, At: 3*len(*l) + 7})
	return len(*l) - 1
}

// list lays a part's nodes in the order in which those of a description stand, each at a place of its own, none at 0.
func list(p *part) []api.Node {
	var l []api.Node
	lay(&l, p)
	return l
}

// scattered is a tree with its nodes in another order, kids still ahead of those that have them.
func scattered(chance *rand.Rand, l []api.Node) []api.Node {
	missing := make([]int, len(l))
	up := make([]int, len(l))
	var ready []int
	for i, n := range l {
		missing[i] = len(n.Kids)
		for _, k := range n.Kids {
			up[k] = i
		}
		if len(n.Kids) == 0 {
			ready = append(ready, i)
		}
	}
	number := make([]int, len(l))
	var all []api.Node
	for len(ready) > 0 {
		x := chance.Intn(len(ready))
		i := ready[x]
		ready = slices.Delete(ready, x, x+1)
		number[i] = len(all)
		n := api.Node{Kind: l[i].Kind, Text: l[i].Text, At: l[i].At}
		for _, k := range l[i].Kids {
			n.Kids = append(n.Kids, number[k])
		}
		all = append(all, n)
		if missing[up[i]]--; missing[up[i]] == 0 {
			ready = append(ready, up[i])
		}
	}
	return all
}

// copied is a list that shares nothing with l, with room behind it and its kids.
func copied(l []api.Node) []api.Node {
	all := make([]api.Node, len(l), len(l)+3)
	for i, n := range l {
		all[i] = n
		all[i].Kids = append(make([]int, 0, len(n.Kids)+2), n.Kids...)
	}
	return all
}

func sameNodes(a, b []api.Node) bool {
	return slices.EqualFunc(a, b, func(x, y api.Node) bool {
		return x.Kind == y.Kind && x.Text == y.Text && x.At == y.At && slices.Equal(x.Kids, y.Kids)
	})
}

func sameSorts(a, b []api.Sort) bool {
	return slices.EqualFunc(a, b, func(x, y api.Sort) bool { return x.Name == y.Name && slices.Equal(x.Fields, y.Fields) })
}

// sameFunctions tells whether functions are alike, their nodes aside.
func sameFunctions(a, b []api.Fn) bool {
	return slices.EqualFunc(a, b, func(x, y api.Fn) bool {
		return x.Name == y.Name && x.Params == y.Params && slices.Equal(x.Vars, y.Vars)
	})
}

func sameDescs(a, b api.Desc) bool {
	return sameSorts(a.Sorts, b.Sorts) && sameFunctions(a.Fns, b.Fns) && a.Main == b.Main && slices.Equal(a.Merges, b.Merges) &&
		slices.EqualFunc(a.Fns, b.Fns, func(x, y api.Fn) bool { return x.Node == y.Node })
}

func noDesc(d api.Desc) bool {
	return len(d.Sorts) == 0 && len(d.Fns) == 0 && d.Main == 0 && len(d.Merges) == 0
}

// read is the tree of a description that parse is to take.
func read(t *testing.T, s string) []api.Node {
	t.Helper()
	l, at, e := parse.Program(s)
	if e != api.OK {
		t.Fatalf("%d, %d of\n%.2000s", at, e, s)
	}
	return l
}

// wantTaken wants a description to be taken by both calls, and answers what it is.
func wantTaken(t *testing.T, s string) api.Desc {
	t.Helper()
	l := read(t, s)
	d, at, e := Program(l)
	if at != 0 || e != api.OK {
		t.Errorf("Program is %d, %d of\n%.2000s", at, e, s)
	}
	tree, other, at, e := Source(s)
	if at != 0 || e != api.OK || !sameNodes(tree, l) || !sameDescs(other, d) {
		t.Errorf("Source is %d, %d of\n%.2000s", at, e, s)
	}
	return d
}

// wantList wants an error at a place of a list, and no description.
func wantList(t *testing.T, l []api.Node, at int, e api.Errno) {
	t.Helper()
	if d, gotAt, got := Program(l); gotAt != at || got != e || e != api.OK && !noDesc(d) {
		t.Errorf("Program is %.200v, %d, %d; wanted %d, %d of %.2000v", d, gotAt, got, at, e, l)
	}
}

// wantPlace wants an error of both calls at a place of a description.
func wantPlace(t *testing.T, s string, at int, e api.Errno) {
	t.Helper()
	if d, gotAt, got := Program(read(t, s)); gotAt != at || got != e || !noDesc(d) {
		t.Errorf("Program is %.200v, %d, %d; wanted %d, %d of\n%.2000s", d, gotAt, got, at, e, s)
	}
	if l, d, gotAt, got := Source(s); gotAt != at || got != e || len(l) > 0 || !noDesc(d) {
		t.Errorf("Source is %.200v, %.200v, %d, %d; wanted %d, %d of\n%.2000s", l, d, gotAt, got, at, e, s)
	}
}

// wantFault wants an error at the place where the sign @, which no description has, stands in s.
func wantFault(t *testing.T, s string, e api.Errno) {
	t.Helper()
	ahead, behind, is := strings.Cut(s, "@")
	if !is {
		t.Fatalf("there is no @ in %s", s)
	}
	wantPlace(t, ahead+behind, len(ahead), e)
}

// wantBody wants what wantFault does, of the body of a function with the parameters a, b and c; with OK, that it is taken.
func wantBody(t *testing.T, body string, e api.Errno) {
	t.Helper()
	s := "rec P {x, y}\nrec Q {z}\nfn g(a, b) {\n}\nfn f(a, b, c) {\n" + body + "\n}\nfn main() {\n}\nfn h() {\n}\n"
	if e == api.OK {
		wantTaken(t, s)
		return
	}
	wantFault(t, s, e)
}
