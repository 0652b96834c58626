package show

import (
	"strings"
	"testing"

	"swath/api"
)

// eachOperator goes through all operators with the numbers of their lines.
func eachOperator(yield func(string, int) bool) {
	for line, all := range operators {
		for _, o := range all {
			if !yield(o, line) {
				return
			}
		}
	}
}

func TestOperatorsLeftAndRightOfOperators(t *testing.T) { // P7.1
	x, y, z := name("x"), name("y"), name("z")
	for outer, line := range eachOperator {
		for inner, innerLine := range eachOperator {
			// Comparisons, the first line, don't stand on either side of one another.
			left := innerLine >= line && innerLine > 0
			wantLeast(t, bin(bin(x, inner, y), outer, z), "x "+inner+" y "+outer+" z", "(x "+inner+" y) "+outer+" z", left)
			wantLeast(t, bin(x, outer, bin(y, inner, z)), "x "+outer+" y "+inner+" z", "x "+outer+" (y "+inner+" z)", innerLine > line)
		}
	}
}

func TestOperatorsOnBothSides(t *testing.T) { // P7.1
	x, y := name("x"), name("y")
	for outer, line := range eachOperator {
		for first, firstLine := range eachOperator {
			for second, secondLine := range eachOperator {
				left, right := "x "+first+" y", "y "+second+" x"
				if firstLine < max(line, 1) {
					left = "(" + left + ")"
				}
				if secondLine <= line {
					right = "(" + right + ")"
				}
				l := expressionTree(bin(bin(x, first, y), outer, bin(y, second, x)))
				wantShown(t, l, "fn f() {\n    return "+left+" "+outer+" "+right+";\n}\n")
			}
		}
	}
}

func TestComparisonsWithinComparisons(t *testing.T) { // P7.1
	x, y, z := name("x"), name("y"), name("z")
	less := bin(x, "<", y)
	for want, e := range map[string]part{
		"(x < y) == z":                    bin(less, "==", z),
		"z == (x < y)":                    bin(z, "==", less),
		"(x < y) <= (x < y)":              bin(less, "<=", less),
		"((x < y) != z) < (z == (x < y))": bin(bin(less, "!=", z), "<", bin(z, "==", less)),
		"x | y == y ^ z":                  bin(bin(x, "|", y), "==", bin(y, "^", z)),
		"x | (y == y) ^ z":                bin(bin(x, "|", bin(y, "==", y)), "^", z),
		"-(x < y) < !(x < y)":             bin(sign("-", less), "<", sign("!", less)),
		"(x < y).a < (x < y)[x < y]":      bin(field(less, "a"), "<", elem(less, less)),
	} {
		wantExpression(t, e, want)
	}
}

func TestLongChains(t *testing.T) { // P7.1
	x, y, z := name("x"), name("y"), name("z")
	for want, e := range map[string]part{
		"x - y - z":                             bin(bin(x, "-", y), "-", z),
		"x - (y - z)":                           bin(x, "-", bin(y, "-", z)),
		"x - (y - z) - x":                       bin(bin(x, "-", bin(y, "-", z)), "-", x),
		"x - (y - z - x)":                       bin(x, "-", bin(bin(y, "-", z), "-", x)),
		"x - (y - (z - x))":                     bin(x, "-", bin(y, "-", bin(z, "-", x))),
		"x + y * z << x & y | z == x":           bin(bin(bin(bin(bin(x, "+", bin(y, "*", z)), "<<", x), "&", y), "|", z), "==", x),
		"x == y | z & x << y + z * x":           bin(x, "==", bin(y, "|", bin(z, "&", bin(x, "<<", bin(y, "+", bin(z, "*", x)))))),
		"(((((x == y) | z) & x) << y) + z) * x": bin(bin(bin(bin(bin(bin(x, "==", y), "|", z), "&", x), "<<", y), "+", z), "*", x),
		"x * (y + (z << (x & (y | (z == x)))))": bin(x, "*", bin(y, "+", bin(z, "<<", bin(x, "&", bin(y, "|", bin(z, "==", x)))))),
		"x / (y * z) % x":                       bin(bin(x, "/", bin(y, "*", z)), "%", x),
	} {
		wantExpression(t, e, want)
	}
}

func TestSigns(t *testing.T) { // P7.1
	x, y := name("x"), name("y")
	for _, s := range signs {
		for _, other := range signs {
			wantLeast(t, sign(s, sign(other, x)), s+other+"x", s+"("+other+"x)", true)
			wantLeast(t, sign(s, sign(other, sign(s, num("0")))), s+other+s+"0", "", true)
		}
		for o := range eachOperator {
			wantLeast(t, sign(s, bin(x, o, y)), s+"x "+o+" y", s+"(x "+o+" y)", false)
			wantLeast(t, bin(sign(s, x), o, y), s+"x "+o+" y", "("+s+"x) "+o+" y", true)
			wantLeast(t, bin(x, o, sign(s, y)), "x "+o+" "+s+"y", "x "+o+" ("+s+"y)", true)
			wantLeast(t, bin(sign(s, sign(s, x)), o, sign(s, bin(x, o, y))), s+s+"x "+o+" "+s+"x "+o+" y", s+s+"x "+o+" "+s+"(x "+o+" y)", false)
		}
		for want, e := range map[string]part{
			"0": num("0"), "7": num("7"), "9223372036854775807": num("9223372036854775807"), "null": of(api.NodeNull, ""), "x.a": field(x, "a"), "x[y]": elem(x, y), "g()": of(api.NodeCall, "g"), "new P": of(api.NodeNew, "P"),
		} {
			wantLeast(t, sign(s, e), s+want, s+"("+want+")", true)
		}
	}
	long := x
	for range 190 {
		long = sign("-", long)
	}
	wantExpression(t, long, strings.Repeat("-", 190)+"x")
}

// firsts are expressions that may be a first part, or a back.
func firsts() map[string]part {
	x, e := name("x"), num("7")
	return map[string]part{
		"0": num("0"), "7": e, "9223372036854775807": num("9223372036854775807"), "null": of(api.NodeNull, ""), "root": of(api.NodeRoot, ""), "x": x,
		"g()": of(api.NodeCall, "g"), "g(x)": of(api.NodeCall, "g", x), "g(x, 7)": of(api.NodeCall, "g", x, e), "new P": of(api.NodeNew, "P"),
		"arr(7)": of(api.NodeArr, "", e), "len(x)": of(api.NodeLen, "", x), "in()": of(api.NodeIn, ""), "img(7)": of(api.NodeImg, "", e), "size()": of(api.NodeSize, ""), "promote(x)": of(api.NodePromote, "", x),
		"x.a": field(x, "a"), "x[7]": elem(x, e), "x.a.b[7][x]": elem(elem(field(field(x, "a"), "b"), e), x), "null[x == 7].a": field(elem(of(api.NodeNull, ""), bin(x, "==", e)), "a"),
	}
}

func TestFieldsAndElementsBehindFirsts(t *testing.T) { // P7.1
	for s, e := range firsts() {
		wantLeast(t, field(e, "b"), s+".b", "("+s+").b", true)
		wantLeast(t, elem(e, num("0")), s+"[0]", "("+s+")[0]", true)
		wantLeast(t, elem(name("x"), e), "x["+s+"]", "x[("+s+")]", true)
		wantLeast(t, elem(field(elem(e, e), "b"), field(e, "c")), s+"["+s+"].b["+s+".c]", "", true)
	}
}

func TestFieldsAndElementsBehindOthers(t *testing.T) { // P7.1
	others := map[string]part{"-x.a": sign("-", field(name("x"), "a")), "!-7": sign("!", sign("-", num("7")))}
	for _, s := range signs {
		others[s+"x"] = sign(s, name("x"))
		others[s+"(x + 7)"] = sign(s, bin(name("x"), "+", num("7")))
	}
	for o := range eachOperator {
		others["x "+o+" 7"] = bin(name("x"), o, num("7"))
		others["x.a "+o+" y[0]"] = bin(field(name("x"), "a"), o, elem(name("y"), num("0")))
	}
	for s, e := range others {
		wantLeast(t, field(e, "b"), s+".b", "("+s+").b", false)
		wantLeast(t, elem(e, num("0")), s+"[0]", "("+s+")[0]", false)
		// Within the brackets of an element any expression may stand.
		wantLeast(t, elem(name("x"), e), "x["+s+"]", "x[("+s+")]", true)
		wantLeast(t, elem(field(e, "b"), e), s+".b["+s+"]", "("+s+").b["+s+"]", false)
	}
}

// TestManyParentheses shows more of them within one another than may be read again.
func TestManyParentheses(t *testing.T) { // P7.1
	for _, n := range []int{1, 2, 148, 149, 150, 190} {
		e := name("x")
		for range n {
			e = bin(name("y"), "-", e)
		}
		want := "fn f() {\n    return " + strings.Repeat("y - (", n-1) + "y - x" + strings.Repeat(")", n-1) + ";\n}\n"
		wantShown(t, expressionTree(e), want)
		// The function's own bracket is open about them.
		if n <= 150 {
			wantRead(t, want, expressionTree(e))
		}
	}
}
