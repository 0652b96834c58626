package check

import (
	"strconv"
	"strings"
	"testing"

	"swath/api"
)

// numbered is n copies of a text with their numbers in place of #, from a number on, with a text between.
func numbered(text string, from, n int, between string) string {
	var l []string
	for i := range n {
		l = append(l, strings.ReplaceAll(text, "#", strconv.Itoa(from+i)))
	}
	return strings.Join(l, between)
}

func TestMostRecords(t *testing.T) { // P8.1
	d := wantTaken(t, numbered("rec P# {a#}", 0, api.MaxRecs, " ")+" fn main() {}")
	if len(d.Sorts) != api.MaxRecs || d.Sorts[api.MaxRecs-1].Name != "P99" {
		t.Error(len(d.Sorts))
	}
	wantPlace(t, numbered("rec P# {}", 0, api.MaxRecs+1, " ")+" fn main() {}", 0, api.ErrLong)
	wantPlace(t, numbered("rec P# {}", 0, 60, " ")+" fn main() {} "+numbered("rec Q# {}", 0, 41, " "), 0, api.ErrLong)
	// Functions don't count as records, nor records as functions.
	wantTaken(t, numbered("rec P# {}", 0, api.MaxRecs, " ")+numbered("fn f#() {}", 0, api.MaxFns-1, " ")+" fn main() {}")
}

func TestMostFields(t *testing.T) { // P8.1
	wantTaken(t, "rec P {"+numbered("a#", 0, api.MaxFields, ", ")+"} fn main() {}")
	wantFault(t, "rec @P {"+numbered("a#", 0, api.MaxFields+1, ", ")+"} fn main() {}", api.ErrLong)
	wantFault(t, "rec P {x} fn main() {} rec @Q {"+numbered("a#", 0, api.MaxFields+1, ", ")+"}", api.ErrLong)
	// As many in each of several, but together more.
	d := wantTaken(t, "rec P {"+numbered("a#", 0, api.MaxFields, ", ")+"} rec Q {"+numbered("b#", 0, api.MaxFields, ", ")+"} fn main() {}")
	if len(d.Sorts[0].Fields) != api.MaxFields || len(d.Sorts[1].Fields) != api.MaxFields {
		t.Error(d.Sorts)
	}
}

func TestMostFunctions(t *testing.T) { // P8.1
	d := wantTaken(t, numbered("fn f#() {}", 0, api.MaxFns-1, " ")+" fn main() {}")
	if len(d.Fns) != api.MaxFns || d.Main != api.MaxFns-1 {
		t.Error(len(d.Fns), d.Main)
	}
	wantPlace(t, numbered("fn f#() {}", 0, api.MaxFns, " ")+" fn main() {}", 0, api.ErrLong)
	wantPlace(t, " fn main() {} "+numbered("fn f#() {} rec P# {}", 0, api.MaxRecs, " ")+numbered("fn g#() {}", 0, api.MaxRecs, " "), 0, api.ErrLong)
}

func TestMostVariables(t *testing.T) { // P8.1
	for _, params := range []int{0, 1, 40, 99, 100} {
		head := "(" + numbered("p#", 0, params, ", ") + ") { "
		wantTaken(t, "fn main() {} fn f"+head+numbered("let v# = 1;", 0, api.MaxVars-params, " ")+"}")
		wantFault(t, "fn main() {} fn @f"+head+numbered("let v# = 1;", 0, api.MaxVars-params+1, " ")+"}", api.ErrLong)
	}
	wantFault(t, "fn @f("+numbered("p#", 0, api.MaxVars+1, ", ")+") {} fn main() {}", api.ErrLong)
	// Lets count wherever they stand, those that are in scope no more, too.
	inner := "if 1 { let v = 1; while 1 { let w = 2; } } else { let v = 3; let u = v; } "
	d := wantTaken(t, "fn main() { "+strings.Repeat(inner, api.MaxVars/4)+"}")
	if len(d.Fns[0].Vars) != api.MaxVars {
		t.Error(len(d.Fns[0].Vars))
	}
	wantFault(t, "fn @main() { "+strings.Repeat(inner, api.MaxVars/4)+"let v = 1; }", api.ErrLong)
	wantFault(t, "fn @main() { "+strings.Repeat("while 1 { let v = 1; } ", api.MaxVars+1)+"}", api.ErrLong)
	// Each function has its own.
	many := numbered("let v# = 1;", 0, api.MaxVars, " ")
	wantTaken(t, "fn f() { "+many+" } fn main() { "+many+" } fn g() { "+many+" }")
	wantFault(t, "fn f() { "+many+" } fn main() { "+many+" } fn @g(a) { "+many+" }", api.ErrLong)
}

func TestMostGreens(t *testing.T) { // P8.1
	lets := numbered("let v# = 1;", 0, 8, " ")
	for n := range 9 {
		s := "fn main() { " + lets + " while 1 { @merge(" + numbered("v#", 0, n, ", ") + "); } }"
		if n <= api.MaxGreens {
			wantTaken(t, strings.ReplaceAll(s, "@", ""))
		} else {
			wantFault(t, s, api.ErrHint)
		}
	}
}

// TestGreatOnes takes descriptions that are as great as may be, and finds what is wrong at their ends.
func TestGreatOnes(t *testing.T) { // P1, P8.1
	// As many as there are bytes for.
	const loops = (api.MaxSource - 100) / len("while 1{merge();}")
	s := "fn main() { " + strings.Repeat("while 1{merge();}", loops)
	d := wantTaken(t, s+"}")
	if len(d.Merges) != loops {
		t.Error(len(d.Merges))
	}
	wantFault(t, s+"@merge();}", api.ErrHint)
	// Six nodes are about the innermost expression, two more about it for each while.
	const deep = 95
	s = "fn main() { let v = 1; " + numbered("while v { merge(v); let v# = v;", 0, deep, " ") + "out v; out v0; out v94; " + strings.Repeat("}", deep+1)
	d = wantTaken(t, s)
	if len(d.Merges) != deep || len(d.Fns[0].Vars) != deep+1 {
		t.Error(len(d.Merges), len(d.Fns[0].Vars))
	}
	wantFault(t, strings.Replace(s, "out v94", "let @v0 = 1", 1), api.ErrScope)
	wantFault(t, strings.Replace(s, "out v94", "out @v95", 1), api.ErrScope)
	wantFault(t, "fn main() { return "+strings.Repeat("-", 190)+"@v; }", api.ErrScope)
}
