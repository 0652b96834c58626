package lower

import (
	"fmt"
	"slices"
	"strings"
	"testing"

	"swath/api"
	"swath/ir"
)

// seen are functions that are called behind merges with their numbers and greens: watch holds these against what the merge had.
const seen = " fn seen0(n) { } fn seen1(n, a) { } fn seen2(n, a, b) { } fn seen3(n, a, b, c) { } fn seen4(n, a, b, c, d) { }"

// behind is the number of the instruction behind the merge of that number.
func behind(t *testing.T, f api.Func, merge int64) int {
	t.Helper()
	at := slices.IndexFunc(f.Code, func(i api.Ins) bool { return i.Op == api.InsMerge && i.K == merge })
	if at < 0 {
		t.Fatalf("no merge %d in\n%s", merge, ir.Show(f))
	}
	return at + 1
}

// TestMergesAheadOfEachKind has a statement behind a merge that has an instruction which nothing else in the loop has: it comes behind the merge and its own step.
func TestMergesAheadOfEachKind(t *testing.T) { // P11.1
	for _, x := range []struct {
		statement string
		then      []int
	}{
		{"if size() { }", []int{api.InsSize, api.InsZero}}, {"if null { out 1; } else { out 2; }", []int{api.InsNull, api.InsZero}}, {"while size() { out 1; }", []int{api.InsSize, api.InsZero}},
		{"while size() { merge(); out 1; }", []int{api.InsSize, api.InsZero, api.InsMerge}}, {"let v = in();", []int{api.InsIn}}, {"let v = n;", []int{api.InsMove}}, {"return null;", []int{api.InsNull, api.InsRet}},
		{"return n;", []int{api.InsRet}}, {"stop n;", []int{api.InsStop}}, {"out n;", []int{api.InsOut}}, {"n = root;", []int{api.InsRoot}}, {"n.x = n;", []int{api.InsPut}}, {"n[n] = n;", []int{api.InsSetElem}},
		{"root = n;", []int{api.InsSetRoot}}, {"put(n, n);", []int{api.InsCall}},
	} {
		for _, rest := range []string{"", " out 1; stop 2;"} {
			f := mainOf(t, "let n = in(); while n { merge(n); "+x.statement+rest+" }")
			at := behind(t, f, 0)
			if f.Code[at].Op != api.InsStep {
				t.Errorf("%s:\n%s", x.statement, ir.Show(f))
			}
			for n, op := range x.then {
				if f.Code[at+1+n].Op != op {
					t.Errorf("%s:\n%s", x.statement, ir.Show(f))
				}
			}
		}
	}
	// At the end of a block nothing but the way back, to the step of the condition, stands behind it.
	f := mainOf(t, "let n = in(); while n { merge(n); }")
	if i := f.Code[behind(t, f, 0)]; i.Op != api.InsJump || f.Code[i.K].Op != api.InsStep || f.Code[i.K+1].Op != api.InsZero {
		t.Error(ir.Show(f))
	}
	// Ahead of it the condition has been asked.
	if ahead := f.Code[behind(t, f, 0)-2]; ahead.Op != api.InsZero {
		t.Error(ir.Show(f))
	}
}

// TestStepsAtMerges has how many steps have been taken when a merge is met: all but that of the statement behind it.
func TestStepsAtMerges(t *testing.T) { // P11.1, P11.3
	for _, x := range []struct {
		body  string
		steps []int
	}{
		{"let n = 3; while n { merge(); n = n - 1; }", []int{2, 4, 6}},
		{"let n = 3; while n { merge(); if n == 2 { return 1; } n = n - 1; }", []int{2, 5}},
		{"while 1 { merge(); return 1; }", []int{1}},
		{"let n = 2; while n { merge(); let v = n; n = v - 1; }", []int{2, 5}},
		{"let n = 2; while n { merge(); while 0 { merge(); } n = n - 1; }", []int{2, 5}},
		{"let n = 2; while n { merge(); let m = 1; while m { merge(); m = 0; } n = n - 1; }", []int{2, 4, 8, 10}},
		{"while in() - 21 { merge(); }", []int{1}},
		{"let n = 1; while n { merge(); put(1, 2); n = 0; }", []int{2}},
	} {
		c := codeOf(t, sorts+"fn main() { "+x.body+" }"+put)
		m := machineOf(c, wide)
		var steps []int
		m.met = func(int64, []api.Value) { steps = append(steps, m.result.Steps) }
		if m.run(); !slices.Equal(steps, x.steps) {
			t.Errorf("%v; wanted %v of %s", steps, x.steps, x.body)
		}
		wantBodies(t, x.body)
	}
}

func TestMergesNumbers(t *testing.T) { // P11.1
	s := "fn main() { while size() { merge(); seen0(0); while 1 { merge(); seen0(1); if f(1) { stop 1; } while 1 { merge(); seen0(2); stop 2; } } }" +
		" while 1 { merge(); seen0(3); if in() { while 1 { merge(); seen0(4); return f(0); } } else { while 1 { merge(); seen0(5); return g(); } } } }" + seen +
		" fn f(n) { while !n { merge(n); seen1(6, n); n = n + 1; } return n - 1; } fn g() { while 1 { merge(); seen0(7); return 3; } return 1; while 1 { merge(); seen0(8); } }"
	l := nodes(t, s)
	c := made(t, l)
	if c.Merges != 9 {
		t.Error(c.Merges)
	}
	for _, image := range [][]int64{nil, {1}} {
		for _, input := range [][]int64{{0}, {1}} {
			wantSame(t, l, c, given{image, input, wide.lim})
		}
	}
	// Where each stands: they are numbered as they stand in the description, whatever the order of the functions.
	for n, f := range c.Funcs {
		var numbers []int64
		for _, i := range f.Code {
			if i.Op == api.InsMerge {
				numbers = append(numbers, i.K)
			}
		}
		want := map[string][]int64{"main": {0, 1, 2, 3, 4, 5}, "f": {6}, "g": {7, 8}}[f.Name]
		if !slices.Equal(numbers, want) {
			t.Error(n, f.Name, numbers)
		}
	}
	// Functions ahead of main have the lower numbers.
	c = codeOf(t, "fn f() { while 1 { merge(); return 1; } } fn main() { while 1 { merge(); return f(); } }")
	if c.Main != 1 || c.Funcs[1].Code[behind(t, c.Funcs[1], 1)-1].K != 1 || c.Funcs[0].Code[behind(t, c.Funcs[0], 0)-1].K != 0 {
		t.Error(shown(c))
	}
	many := "fn main() { " + strings.Repeat("while in() { merge(); } ", 3000) + "}"
	if c := codeOf(t, many); c.Merges != 3000 || count(c.Funcs[0], api.InsMerge) != 3000 {
		t.Error(c.Merges)
	}
}

// TestGreens has merges whose variables hold unlike values: those that the merge's registers hold are these, in its order.
func TestGreens(t *testing.T) { // P11.1
	for _, x := range []struct {
		greens string
		want   []int64
	}{
		{"", nil}, {"a", []int64{1}}, {"b", []int64{2}}, {"c", []int64{3}}, {"d", []int64{4}}, {"a, b", []int64{1, 2}}, {"b, a", []int64{2, 1}}, {"d, c, b, a", []int64{4, 3, 2, 1}}, {"a, b, c, d", []int64{1, 2, 3, 4}},
		{"c, e", []int64{3, 5}}, {"e, d, c", []int64{5, 4, 3}}, {"e, n, a, b", []int64{5, 1, 1, 2}},
	} {
		l := nodes(t, "fn main() { f(1, 2); } fn f(a, b) { if a { let u = 8; out u; } let c = 3; let d = 4; if d { let e = 5; let n = 1; while n { merge("+x.greens+"); let v = 7; n = n - 1; } } }")
		c := made(t, l)
		met := 0
		m := machineOf(c, wide)
		m.met = func(merge int64, greens []api.Value) {
			met++
			var want []api.Value
			for _, n := range x.want {
				want = append(want, num(n))
			}
			if merge != 0 || !slices.Equal(greens, want) {
				t.Errorf("%v; wanted %v of %s:\n%s", greens, want, x.greens, shown(c))
			}
		}
		if m.run(); met != 1 {
			t.Error(met)
		}
		wantSame(t, l, c, wide)
	}
	// Values as they are each time the merge is met, of any kind; and variables of one name in several blocks.
	for _, body := range []string{
		"let n = 3; let v = null; while n { merge(n, v); seen2(0, n, v); n = n - 1; v = arr(n); }",
		"let n = 3; while n { let v = n * 10; let m = 2; while m { merge(v, m, n); seen3(0, v, m, n); m = m - 1; v = v + 1; } n = n - 1; }",
		"if 1 { let v = 1; while v { merge(v); seen1(0, v); v = 0; } } else { let v = 2; while v { merge(v); seen1(1, v); v = 0; } } let w = 9; let v = 3; while v { merge(v, w); seen2(2, v, w); v = 0; w = 8; }",
		"let p = new P; let n = 2; while n { merge(p); seen1(0, p); p = new Q; n = n - 1; } root = p;",
	} {
		wantSteps(t, sorts+"fn main() { "+body+" }"+seen, wide)
	}
}

// TestGreensAreTheVariablesOwnRegisters has a merge name the registers that are read where the variables are.
func TestGreensAreTheVariablesOwnRegisters(t *testing.T) { // P11.1
	names := []string{"a", "b", "c", "d"}
	for _, a := range names {
		for _, b := range names {
			if a == b {
				continue
			}
			c := codeOf(t, fmt.Sprintf("fn f(a, b) { let c = 3; let d = 4; while 1 { merge(%s, %s); out %s; out %s; } } fn main() { }", a, b, a, b))
			f := c.Funcs[0]
			at := behind(t, f, 0)
			merge, first, second := f.Code[at-1], f.Code[at+1], f.Code[at+3]
			if first.Op != api.InsOut || second.Op != api.InsOut || !slices.Equal(merge.L, []int{first.A, second.A}) {
				t.Error(ir.Show(f))
			}
		}
	}
}
