package show

import (
	"math"
	"math/rand"
	"slices"
	"strconv"
	"strings"
	"testing"

	"swath/api"
)

func wantLisp(t *testing.T, l []api.Node, want string) {
	t.Helper()
	if s, e := Lisp(l); s != want || e != api.OK {
		t.Errorf("Lisp is %.2000s, %d; wanted %.2000s", s, e, want)
	}
}

func TestLispOfEveryKind(t *testing.T) { // P7.2
	for _, c := range []struct {
		text string
		want string
	}{
		{"", "(1)"},
		{"rec P{}", "(1 (2 P @4))"},
		{"rec P{a}", "(1 (2 P @4 (17 a @6)))"},
		{"rec P{a,b}", "(1 (2 P @4 (17 a @6) (17 b @8)))"},
		{"fn f(){}", "(1 (3 f @3 (4 @6)))"},
		{"fn f(a){}", "(1 (3 f @3 (17 a @5) (4 @7)))"},
		{"fn f(a,b){}rec P{}", "(1 (3 f @3 (17 a @5) (17 b @7) (4 @9)) (2 P @15))"},
	} {
		wantLisp(t, taken(t, c.text), c.want)
	}
	// What stands in the function, whose first byte is at 7.
	for body, want := range map[string]string{
		"let v=1;":           "(5 v @11 (15 1 @13))",
		"x=1;":               "(6 @8 (17 x @7) (15 1 @9))",
		"if 1{}":             "(7 @7 (15 1 @10) (4 @11) (14))",
		"if 1{}else{}":       "(7 @7 (15 1 @10) (4 @11) (4 @17))",
		"while 1{merge();}":  "(8 @7 (15 1 @13) (4 @14 (13 @15)))",
		"return 1;":          "(9 @7 (15 1 @14))",
		"out 1;":             "(10 @7 (15 1 @11))",
		"stop 1;":            "(11 @7 (15 1 @12))",
		"g();":               "(12 @7 (22 g @7))",
		"g(1);":              "(12 @7 (22 g @7 (15 1 @9)))",
		"g(1,x);":            "(12 @7 (22 g @7 (15 1 @9) (17 x @11)))",
		"merge();":           "(13 @7)",
		"merge(x);":          "(13 @7 (17 x @13))",
		"merge(x,y);":        "(13 @7 (17 x @13) (17 y @15))",
		"out 0;":             "(10 @7 (15 0 @11))",
		"out 0x10;":          "(10 @7 (15 16 @11))",
		"out null;":          "(10 @7 (16 @11))",
		"out -x;":            "(10 @7 (18 - @11 (17 x @12)))",
		"out !~x;":           "(10 @7 (18 ! @11 (18 ~ @12 (17 x @13))))",
		"out x<=1;":          "(10 @7 (19 <= @12 (17 x @11) (15 1 @14)))",
		"out x|(1);":         "(10 @7 (19 | @12 (17 x @11) (15 1 @14)))",
		"out x.a;":           "(10 @7 (20 a @12 (17 x @11)))",
		"out x[1];":          "(10 @7 (21 @12 (17 x @11) (15 1 @13)))",
		"out new P;":         "(10 @7 (23 P @15))",
		"out arr(1);":        "(10 @7 (24 @11 (15 1 @15)))",
		"out len(1);":        "(10 @7 (25 @11 (15 1 @15)))",
		"out in();":          "(10 @7 (26 @11))",
		"out img(1);":        "(10 @7 (27 @11 (15 1 @15)))",
		"out size();":        "(10 @7 (28 @11))",
		"out promote(root);": "(10 @7 (29 @11 (30 @19)))",
	} {
		wantLisp(t, taken(t, "fn f(){"+body+"}"), "(1 (3 f @3 (4 @6 "+want+")))")
		wantLisp(t, placeless(taken(t, "fn f(){"+body+"}")), unplaced("(1 (3 f @3 (4 @6 "+want+")))"))
	}
	for _, line := range operators {
		for _, o := range line {
			wantLisp(t, expressionTree(bin(name("x"), o, num("0"))), "(1 (3 f (4 (9 (19 "+o+" (17 x) (15 0))))))")
		}
	}
}

// placeless is a tree with all its nodes at 0.
func placeless(l []api.Node) []api.Node {
	l = slices.Clone(l)
	for i := range l {
		l[i].At = 0
	}
	return l
}

// unplaced is a text of Lisp without places.
func unplaced(s string) string {
	var all []string
	for _, piece := range strings.Split(s, " ") {
		if !strings.HasPrefix(piece, "@") {
			all = append(all, piece)
			continue
		}
		all[len(all)-1] += strings.TrimLeft(piece, "@0123456789")
	}
	return strings.Join(all, " ")
}

func TestLispsPlaces(t *testing.T) { // P7.2
	for at, want := range map[int]string{0: "(1)", 1: "(1 @1)", 9: "(1 @9)", 10: "(1 @10)", 800001: "(1 @800001)", math.MaxInt: "(1 @9223372036854775807)"} {
		wantLisp(t, []api.Node{{Kind: api.NodeProgram, At: at}}, want)
	}
	l := []api.Node{{Kind: api.NodeName, Text: "a"}, {Kind: api.NodeName, Text: "b", At: 5}, {Kind: api.NodeRec, Text: "P", Kids: []int{1, 0}, At: 3}, {Kind: api.NodeProgram, Kids: []int{2}, At: 2}}
	wantLisp(t, l, "(1 @2 (2 P @3 (17 b @5) (17 a)))")
	l[2].At, l[0].At = 0, 77
	wantLisp(t, l, "(1 @2 (2 P (17 b @5) (17 a @77)))")
	// An if without else has a node that is written, too, and may have a place.
	l = []api.Node{{Kind: api.NodeNum, Text: "0"}, {Kind: api.NodeBlock}, {Kind: api.NodeNone, At: 4}, {Kind: api.NodeIf, Kids: []int{0, 1, 2}}, {Kind: api.NodeBlock, Kids: []int{3}}, {Kind: api.NodeFn, Text: "f", Kids: []int{4}}, {Kind: api.NodeProgram, Kids: []int{5}}}
	wantLisp(t, l, "(1 (3 f (4 (7 (15 0) (4) (14 @4)))))")
}

// lispOf is node n as the chapter's sentence says.
func lispOf(l []api.Node, n int) string {
	pieces := []string{strconv.Itoa(l[n].Kind)}
	if l[n].Text != "" {
		pieces = append(pieces, l[n].Text)
	}
	if l[n].At != 0 {
		pieces = append(pieces, "@"+strconv.Itoa(l[n].At))
	}
	for _, k := range l[n].Kids {
		pieces = append(pieces, lispOf(l, k))
	}
	return "(" + strings.Join(pieces, " ") + ")"
}

func TestLispByChance(t *testing.T) { // P7.2
	chance := rand.New(rand.NewSource(72))
	for range 2000 {
		l := taken(t, chanceText(chance))
		wantLisp(t, l, lispOf(l, len(l)-1))
		l = scattered(chance, l)
		wantLisp(t, l, lispOf(l, len(l)-1))
		if t.Failed() {
			return
		}
	}
}

// Lisp has no limit of bytes but that of nodes.
func TestLongLisp(t *testing.T) { // P7.2
	l := make([]api.Node, 0, api.MaxNodes)
	rec := api.Node{Kind: api.NodeRec, Text: "P", At: math.MaxInt}
	for i := range api.MaxNodes - 2 {
		l = append(l, api.Node{Kind: api.NodeName, Text: "field", At: math.MaxInt})
		rec.Kids = append(rec.Kids, i)
	}
	l = append(l, rec, api.Node{Kind: api.NodeProgram, Kids: []int{api.MaxNodes - 2}})
	const at = " @9223372036854775807"
	wantLisp(t, l, "(1 (2 P"+at+strings.Repeat(" (17 field"+at+")", api.MaxNodes-2)+"))")
	long := strings.Repeat("n", 2*mostShown)
	wantLisp(t, list(of(api.NodeProgram, "", of(api.NodeRec, long))), "(1 (2 "+long+"))")
}
