package check

import (
	"slices"
	"strings"
	"testing"

	"swath/api"
	"swath/tree"
)

// wantBare wants the tree of a description without hints to be that of another one, places aside, with its nodes at the places where they stood.
func wantBare(t *testing.T, s, want string) {
	t.Helper()
	l := read(t, s)
	bare, e := Bare(l)
	if e != api.OK || !tree.Same(bare, read(t, want)) {
		t.Errorf("%v, %d is bare of\n%.1000s\nwanted\n%.1000s", bare, e, s, want)
		return
	}
	// What is written between stays in order, so the places that are left do.
	var places []int
	up := tree.Parents(l)
	for n, node := range l {
		if node.Kind != api.NodeMerge && node.Kind != api.NodePromote && (up[n] < 0 || l[up[n]].Kind != api.NodeMerge) {
			places = append(places, node.At)
		}
	}
	for n, node := range bare {
		if node.At != places[n] {
			t.Errorf("node %d of\n%.1000s\nis at %d, not at %d", n, s, node.At, places[n])
		}
	}
}

func TestNoHints(t *testing.T) { // P8.3
	for _, s := range []string{"", "rec P {}", "fn main() {}", "fn f() { return v; }", "rec P {a, b} fn f(a) { let x = -a.b[1]; while x { if x { out x; } else { stop root; } } f(new P); }"} {
		l := read(t, s)
		if bare, e := Bare(l); e != api.OK || !sameNodes(bare, l) {
			t.Errorf("%v, %d is bare of %s", bare, e, s)
		}
		wantBare(t, s, s)
	}
}

func TestBareOfMerges(t *testing.T) { // P8.3
	wantBare(t, "fn main() { while 1 { merge(); } }", "fn main() { while 1 { } }")
	wantBare(t, "fn main() { let a = 1; while a { merge(a); a = 0; } return a; }", "fn main() { let a = 1; while a { a = 0; } return a; }")
	wantBare(t, "fn f(a, b) { while a { merge(a, b); while b { merge(b, a); } merge(); } }", "fn f(a, b) { while a { while b { } } }")
	// What Program wouldn't take is bared as well.
	wantBare(t, "fn f() { merge(v, v); let a = 1; merge(); if a { merge(a, b, c, d, e, f); } else { merge(); } merge(); return v; merge(); }", "fn f() { let a = 1; if a { } else { } return v; }")
	wantBare(t, "fn f() { merge(); merge(a); merge(b, c); }", "fn f() { }")
	// Names outside of merges stay.
	wantBare(t, "rec P {a} fn f(a) { merge(a); a = a; merge(a); g(a); }", "rec P {a} fn f(a) { a = a; g(a); }")
}

func TestBareOfPromotes(t *testing.T) { // P8.3
	// As each kid that may be one; # stands for it.
	forms := []string{
		"let v = #;", "v = #;", "v.x = #;", "v[1] = #;", "root = #;", "#.x = 1;", "#[1] = 2;", "v[#] = 1;", "if # { } else { }", "while # { }", "return #;", "out #;", "stop #;", "g(#);", "g(1, #, 2);",
		"return -#;", "return !#;", "return ~#;", "return # + 1;", "return 1 - #;", "return # == #;", "return #.x;", "return #[1];", "return v[#];", "return #[#];", "return g(#);", "return g(#, #);",
		"return arr(#);", "return len(#);", "return img(#);", "if 1 { return #; } else { while # { out #; } }",
	}
	for _, form := range forms {
		for _, inner := range []string{"1", "null", "v", "-v", "1 + v", "v.x", "v[1]", "g()", "g(v, 1)", "new P", "arr(1)", "len(v)", "in()", "img(1)", "size()", "root", "v < 1"} {
			bare := "fn f() { " + strings.ReplaceAll(form, "#", "("+inner+")") + " }"
			for _, n := range []int{1, 2, 3, 20} {
				promoted := strings.Repeat("promote(", n) + inner + strings.Repeat(")", n)
				wantBare(t, "fn f() { "+strings.ReplaceAll(form, "#", promoted)+" }", bare)
			}
		}
	}
	wantBare(t, "fn f() { return promote(promote(1) + promote(-promote(v))[promote(g(promote(2), 3))]); }", "fn f() { return 1 + (-v)[g(2, 3)]; }")
	wantBare(t, "fn main() { while promote(1) { merge(v); out promote(v); } }", "fn main() { while 1 { out v; } }")
}

// TestOrderOfBare has nodes that stand far from those that have them.
func TestOrderOfBare(t *testing.T) { // P8.3
	l := []api.Node{
		{Kind: api.NodeName, Text: "g", At: 40},                // gone: green
		{Kind: api.NodeName, Text: "v", At: 30},                // 0
		{Kind: api.NodePromote, Kids: []int{1}, At: 29},        // gone
		{Kind: api.NodeNum, Text: "7", At: 2},                  // 1
		{Kind: api.NodeMerge, Kids: []int{0}, At: 39},          // gone
		{Kind: api.NodePromote, Kids: []int{2}, At: 28},        // gone
		{Kind: api.NodeMerge, At: 50},                          // gone
		{Kind: api.NodeBin, Text: "+", Kids: []int{5, 3}},      // 2
		{Kind: api.NodeNull, At: 5},                            // 3
		{Kind: api.NodePromote, Kids: []int{7}, At: 27},        // gone
		{Kind: api.NodeOut, Kids: []int{8}, At: 4},             // 4
		{Kind: api.NodeReturn, Kids: []int{9}, At: 3},          // 5
		{Kind: api.NodeBlock, Kids: []int{6, 11, 4, 10}},       // 6
		{Kind: api.NodeFn, Text: "f", Kids: []int{12}, At: 11}, // 7
		{Kind: api.NodeProgram, Kids: []int{13}},               // 8
	}
	want := []api.Node{
		{Kind: api.NodeName, Text: "v", At: 30},
		{Kind: api.NodeNum, Text: "7", At: 2},
		{Kind: api.NodeBin, Text: "+", Kids: []int{0, 1}},
		{Kind: api.NodeNull, At: 5},
		{Kind: api.NodeOut, Kids: []int{3}, At: 4},
		{Kind: api.NodeReturn, Kids: []int{2}, At: 3},
		{Kind: api.NodeBlock, Kids: []int{5, 4}},
		{Kind: api.NodeFn, Text: "f", Kids: []int{6}, At: 11},
		{Kind: api.NodeProgram, Kids: []int{7}},
	}
	if bare, e := Bare(l); e != api.OK || !sameNodes(bare, want) {
		t.Errorf("%v, %d", bare, e)
	}
}

func TestGreatBare(t *testing.T) { // P8.3
	deep := api.MaxDeep - 5
	p := num("1")
	for range deep {
		p = promote(p)
	}
	bare, e := Bare(list(program(returned(p))))
	if e != api.OK || len(bare) != 5 || bare[1].Kind != api.NodeReturn || !slices.Equal(bare[1].Kids, []int{0}) {
		t.Error(bare, e)
	}
	var kids []*part
	for range (api.MaxNodes - 4) / 2 {
		kids = append(kids, of(api.NodeMerge, "", name("v")))
	}
	bare, e = Bare(list(program(kids...)))
	if e != api.OK || len(bare) != 3 || len(bare[0].Kids) != 0 {
		t.Error(len(bare), e)
	}
}
