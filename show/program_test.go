package show

import (
	"strings"
	"testing"

	"swath/api"
)

func TestExample(t *testing.T) { // P7.1
	wantShown(t, taken(t, "fn f(x){return (x)-(1-2);}"), "fn f(x) {\n    return x - (1 - 2);\n}\n")
}

func TestDeclarations(t *testing.T) { // P7.1
	a, b, c := name("a"), name("b"), name("c")
	for want, p := range map[string]part{
		"rec P {}\n":           of(api.NodeRec, "P"),
		"rec P {a}\n":          of(api.NodeRec, "P", a),
		"rec P {a, b}\n":       of(api.NodeRec, "P", a, b),
		"rec P {c, b, a}\n":    of(api.NodeRec, "P", c, b, a),
		"fn f() {\n}\n":        of(api.NodeFn, "f", block()),
		"fn f(a) {\n}\n":       of(api.NodeFn, "f", a, block()),
		"fn f(b, a) {\n}\n":    of(api.NodeFn, "f", b, a, block()),
		"fn _(a, b, c) {\n}\n": of(api.NodeFn, "_", a, b, c, block()),
	} {
		wantProgram(t, of(api.NodeProgram, "", p), want)
		wantProgram(t, of(api.NodeProgram, "", p, p), want+want)
		wantProgram(t, of(api.NodeProgram, "", p, of(api.NodeRec, "q"), of(api.NodeFn, "g", block()), p), want+"rec q {}\nfn g() {\n}\n"+want)
	}
	wantProgram(t, of(api.NodeProgram, ""), "")
}

func TestStatements(t *testing.T) { // P7.1
	x, e := name("x"), num("7")
	for want, p := range map[string]part{
		"let v = 7;":                    of(api.NodeLet, "v", e),
		"x = 7;":                        of(api.NodeSet, "", x, e),
		"root = 7;":                     of(api.NodeSet, "", of(api.NodeRoot, ""), e),
		"x.a = 7;":                      of(api.NodeSet, "", field(x, "a"), e),
		"x[7] = x;":                     of(api.NodeSet, "", elem(x, e), x),
		"(-x).a = 7;":                   of(api.NodeSet, "", field(sign("-", x), "a"), e),
		"(x + 7)[7] = 7;":               of(api.NodeSet, "", elem(bin(x, "+", e), e), e),
		"arr(7)[x + 7] = x == 7;":       of(api.NodeSet, "", elem(of(api.NodeArr, "", e), bin(x, "+", e)), bin(x, "==", e)),
		"7.a[x].b = 7;":                 of(api.NodeSet, "", field(elem(field(e, "a"), x), "b"), e),
		"g().a = 7;":                    of(api.NodeSet, "", field(of(api.NodeCall, "g"), "a"), e),
		"if x {\n}":                     of(api.NodeIf, "", x, block(), none()),
		"if x {\n} else {\n}":           of(api.NodeIf, "", x, block(), block()),
		"while x {\n}":                  of(api.NodeWhile, "", x, block()),
		"return 7;":                     of(api.NodeReturn, "", e),
		"out 7;":                        of(api.NodeOut, "", e),
		"stop 7;":                       of(api.NodeStop, "", e),
		"g();":                          of(api.NodeDo, "", of(api.NodeCall, "g")),
		"g(7);":                         of(api.NodeDo, "", of(api.NodeCall, "g", e)),
		"g(7, x);":                      of(api.NodeDo, "", of(api.NodeCall, "g", e, x)),
		"g(x, 7, h(7, x), x == 7);":     of(api.NodeDo, "", of(api.NodeCall, "g", x, e, of(api.NodeCall, "h", e, x), bin(x, "==", e))),
		"merge();":                      of(api.NodeMerge, ""),
		"merge(x);":                     of(api.NodeMerge, "", x),
		"merge(x, y);":                  of(api.NodeMerge, "", x, name("y")),
		"merge(z, y, x, x, w);":         of(api.NodeMerge, "", name("z"), name("y"), x, x, name("w")),
		"if x == 7 {\n    return 7;\n}": of(api.NodeIf, "", bin(x, "==", e), block(of(api.NodeReturn, "", e)), none()),
	} {
		wantBody(t, want, p)
		wantBody(t, want+"\nmerge();\n"+want, p, of(api.NodeMerge, ""), p)
		inner := strings.ReplaceAll(want, "\n", "\n    ")
		wantBody(t, "while 1 {\n    "+inner+"\n}", of(api.NodeWhile, "", num("1"), block(p)))
		wantBody(t, "if 1 {\n    "+inner+"\n} else {\n    "+inner+"\n    "+inner+"\n}", of(api.NodeIf, "", num("1"), block(p), block(p, p)))
	}
}

func TestBlocksWithinOneAnother(t *testing.T) { // P7.1
	one, m := num("1"), of(api.NodeMerge, "")
	p := of(api.NodeProgram, "",
		of(api.NodeFn, "f", block(
			m,
			of(api.NodeWhile, "", one, block(
				of(api.NodeIf, "", one, block(m, of(api.NodeWhile, "", one, block())), block(of(api.NodeIf, "", one, block(), block(m)), m)),
				m)),
			of(api.NodeIf, "", one, block(of(api.NodeIf, "", one, block(m), none())), none()),
			m)),
		of(api.NodeRec, "P", name("a")),
		of(api.NodeFn, "g", block(m)))
	wantProgram(t, p, `fn f() {
    merge();
    while 1 {
        if 1 {
            merge();
            while 1 {
            }
        } else {
            if 1 {
            } else {
                merge();
            }
            merge();
        }
        merge();
    }
    if 1 {
        if 1 {
            merge();
        }
    }
    merge();
}
rec P {a}
fn g() {
    merge();
}
`)
}

// TestDeepBlocks moves lines in as far as may be: a program, a function and a block about blocks of two nodes each.
func TestDeepBlocks(t *testing.T) { // P7.1
	const most = (api.MaxDeep - 4) / 2
	p, inner := of(api.NodeMerge, ""), strings.Repeat("    ", most+1)+"merge();\n"
	for i := range most {
		p = of(api.NodeWhile, "", num("1"), block(p))
		ahead := strings.Repeat("    ", most-i)
		inner = ahead + "while 1 {\n" + inner + ahead + "}\n"
	}
	wantProgram(t, within(p), "fn f() {\n"+inner+"}\n")
	if l := list(within(p)); len(l) != 3*most+4 {
		t.Error(len(l))
	}
}

func TestExpressions(t *testing.T) { // P7.1
	x, e := name("x"), num("7")
	for want, p := range map[string]part{
		"0":                                     num("0"),
		"7":                                     e,
		"10":                                    num("10"),
		"1234567890":                            num("1234567890"),
		"9223372036854775807":                   num("9223372036854775807"),
		"null":                                  of(api.NodeNull, ""),
		"root":                                  of(api.NodeRoot, ""),
		"x":                                     x,
		"nulls_1":                               name("nulls_1"),
		"-x":                                    sign("-", x),
		"!x":                                    sign("!", x),
		"~x":                                    sign("~", x),
		"x + 7":                                 bin(x, "+", e),
		"7 - x":                                 bin(e, "-", x),
		"x.a":                                   field(x, "a"),
		"x[7]":                                  elem(x, e),
		"f()":                                   of(api.NodeCall, "f"),
		"f(x)":                                  of(api.NodeCall, "f", x),
		"f(x, 7)":                               of(api.NodeCall, "f", x, e),
		"f(7, x, 7, x)":                         of(api.NodeCall, "f", e, x, e, x),
		"f(x == 7, (x < 7) < 7)":                of(api.NodeCall, "f", bin(x, "==", e), bin(bin(x, "<", e), "<", e)),
		"new P":                                 of(api.NodeNew, "P"),
		"arr(7)":                                of(api.NodeArr, "", e),
		"len(x)":                                of(api.NodeLen, "", x),
		"in()":                                  of(api.NodeIn, ""),
		"img(7)":                                of(api.NodeImg, "", e),
		"size()":                                of(api.NodeSize, ""),
		"promote(x)":                            of(api.NodePromote, "", x),
		"promote(len(arr(img(in() + size()))))": of(api.NodePromote, "", of(api.NodeLen, "", of(api.NodeArr, "", of(api.NodeImg, "", bin(of(api.NodeIn, ""), "+", of(api.NodeSize, "")))))),
		"x[y[z[0]]][1]":                         elem(elem(x, elem(name("y"), elem(name("z"), num("0")))), num("1")),
	} {
		wantExpression(t, p, want)
	}
}

func TestKidsGoByTheirOrder(t *testing.T) { // P7.1
	// The later a part stands in the description the lower its nodes' numbers are.
	l := []api.Node{
		{Kind: api.NodeBlock, At: 5}, {Kind: api.NodeFn, Text: "last", Kids: []int{0}},
		{Kind: api.NodeNum, Text: "3", At: 99}, {Kind: api.NodeNum, Text: "2"}, {Kind: api.NodeBin, Text: "-", Kids: []int{3, 2}},
		{Kind: api.NodeName, Text: "b"}, {Kind: api.NodeElem, Kids: []int{5, 4}},
		{Kind: api.NodeNum, Text: "1"}, {Kind: api.NodeSet, Kids: []int{6, 7}},
		{Kind: api.NodeMerge}, {Kind: api.NodeBlock, Kids: []int{9, 8}},
		{Kind: api.NodeName, Text: "z"}, {Kind: api.NodeName, Text: "y"}, {Kind: api.NodeFn, Text: "first", Kids: []int{12, 11, 10}},
		{Kind: api.NodeProgram, Kids: []int{13, 1}},
	}
	wantShown(t, l, "fn first(y, z) {\n    merge();\n    b[2 - 3] = 1;\n}\nfn last() {\n}\n")
}
