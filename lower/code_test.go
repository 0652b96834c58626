package lower

import (
	"fmt"
	"slices"
	"strings"
	"testing"

	"swath/api"
	"swath/check"
	"swath/ir"
	"swath/parse"
)

// wantShown wants the code of a main with that body to be just that one.
func wantShown(t *testing.T, body string, lines ...string) {
	t.Helper()
	first, got, _ := strings.Cut(ir.Show(mainOf(t, body)), "\n")
	for n, line := range lines {
		lines[n] = fmt.Sprint(n, ": ", line, "\n")
	}
	if want := strings.Join(lines, ""); got != want {
		t.Errorf("%s:\n%s\n%swanted\n%s", body, first, got, want)
	}
}

func TestExampleOfTheChapter(t *testing.T) { // P11.1
	f := mainOf(t, "return 1 + 2;")
	if len(f.Code) > 5 || f.Code[0].Op != api.InsStep || f.Code[len(f.Code)-1].Op != api.InsRet {
		t.Error(ir.Show(f))
	}
	wantShown(t, "return 1 + 2;", "step", "num A=0 K=1", "num A=1 K=2", "bin A=0 B=0 C=1 K=1", "ret A=0")
}

// TestShownCode has the code as it is made now. Other code may be as right, but should be chosen on purpose.
func TestShownCode(t *testing.T) { // P11.1
	wantShown(t, "", "num A=0 K=0", "ret A=0")
	wantShown(t, "let v = 5; v = v + v; return v;", "step", "num A=0 K=5", "step", "bin A=0 B=0 C=0 K=1", "step", "ret A=0")
	wantShown(t, "let v = in(); let w = v; stop promote(w);", "step", "in A=0", "step", "move A=1 B=0", "step", "promote A=2 B=1", "stop A=2")
	wantShown(t, "while 1 { merge(); }", "step", "num A=0 K=1", "zero A=0 K=5", "merge K=0 L=", "jump K=0", "num A=0 K=0", "ret A=0")
	wantShown(t, "if in() { return 1; } else { return 2; }", "step", "in A=0", "zero A=0 K=6", "step", "num A=0 K=1", "ret A=0", "step", "num A=0 K=2", "ret A=0")
	wantShown(t, "if in() { out 1; } return 2;", "step", "in A=0", "zero A=0 K=6", "step", "num A=0 K=1", "out A=0", "step", "num A=0 K=2", "ret A=0")
	wantShown(t, "if in() { out 1; } else { } return 2;", "step", "in A=0", "zero A=0 K=6", "step", "num A=0 K=1", "out A=0", "step", "num A=0 K=2", "ret A=0")
	wantShown(t, "while in() { return 1; } return 2;", "step", "in A=0", "zero A=0 K=6", "step", "num A=0 K=1", "ret A=0", "step", "num A=0 K=2", "ret A=0")
	wantShown(t, "if in() { out 1; } else { out 2; } stop null;",
		"step", "in A=0", "zero A=0 K=7", "step", "num A=0 K=1", "out A=0", "jump K=10", "step", "num A=0 K=2", "out A=0", "step", "null A=0", "stop A=0")
	wantShown(t, "let p = new P; p.y = put(len(root), ~p.x)[2];", "step", "new A=0 C=2 K=0", "step", "root A=1", "len A=1 B=1", "get A=2 B=0 C=0 K=0", "un A=2 B=2 K=15",
		"call A=1 K=1 L=1,2", "num A=2 K=2", "elem A=1 B=1 C=2", "put A=0 B=1 C=1 K=0", "num A=0 K=0", "ret A=0")
	wantShown(t, "let a = arr(2); a[0] = img(0) == null; root = a[0] != size(); put(1, a);", "step", "num A=0 K=2", "arr A=0 B=0",
		"step", "num A=1 K=0", "num A=2 K=0", "img A=2 B=2", "null A=3", "eq A=2 B=2 C=3", "setelem A=0 B=1 C=2",
		"step", "num A=1 K=0", "elem A=1 B=0 C=1", "size A=2", "ne A=1 B=1 C=2", "setroot A=1", "step", "num A=1 K=1", "call A=1 K=1 L=1,0", "num A=0 K=0", "ret A=0")
}

func TestRefused(t *testing.T) { // P11.1
	for _, x := range []struct {
		s  string
		at int
		e  api.Errno
	}{
		{"", 0, api.ErrMain}, {"fn f() { }", 0, api.ErrMain}, {"fn main(a) { }", 0, api.ErrMain}, {"fn main() { } fn main() { }", 17, api.ErrScope}, {"rec P {} rec P {} fn main() { }", 13, api.ErrScope},
		{"fn main() { return v; }", 19, api.ErrScope}, {"fn main() { v = 1; }", 12, api.ErrScope}, {"fn main() { let v = 1; let v = 2; }", 27, api.ErrScope}, {"fn main() { f(); }", 12, api.ErrScope},
		{"fn main() { return new P; }", 23, api.ErrScope}, {"fn main() { return null.x; }", 23, api.ErrScope}, {"fn main() { main(1); }", 12, api.ErrArity}, {"fn main() { return f(); } fn f(a) { }", 19, api.ErrArity},
		{"fn main() { out 1; merge(); }", 19, api.ErrHint}, {"fn main() { if 1 { merge(); } }", 19, api.ErrHint}, {"fn main() { while 1 { out 1; merge(); } }", 29, api.ErrHint},
		{"fn main() { while 1 { merge(); merge(); } }", 31, api.ErrHint}, {"fn main() { let v = 1; while 1 { merge(v, v); } }", 42, api.ErrScope}, {"fn main() { while 1 { merge(v); } }", 28, api.ErrScope},
		// Where nothing is ever come to, too.
		{"fn main() { out 1; stop 2; return v; }", 34, api.ErrScope}, {"fn main() { return 1; } fn f() { main(2); }", 33, api.ErrArity},
		{"fn main() { " + numbered("let v# = 1; ", 0, 101) + "}", 3, api.ErrLong}, {"fn main() { } " + numbered("fn f#() { } ", 0, 200), 0, api.ErrLong},
	} {
		l, _, e := parse.Program(x.s)
		if e != api.OK {
			t.Fatal(x.s, e)
		}
		wantRefused(t, l, x.at, x.e)
	}
}

// wantRefused wants of a list check.Program's place and error, which must be these, with no code.
func wantRefused(t *testing.T, l []api.Node, at int, e api.Errno) {
	t.Helper()
	if _, checkedAt, checked := check.Program(l); checkedAt != at || checked != e {
		t.Errorf("check.Program is %d, %d; wanted %d, %d of %.300v", checkedAt, checked, at, e, l)
	}
	if c, gotAt, got := Code(l); !isNone(c) || gotAt != at || got != e {
		t.Errorf("Code is %.300v, %d, %d; wanted %d, %d of %.300v", c, gotAt, got, at, e, l)
	}
}

// numbered is s so many times, with numbers from the first one on in place of its #.
func numbered(s string, first, times int) string {
	var b strings.Builder
	for n := range times {
		b.WriteString(strings.ReplaceAll(s, "#", fmt.Sprint(first+n)))
	}
	return b.String()
}

func TestFunctions(t *testing.T) { // P11.1
	c := codeOf(t, "fn a(x, y) { } rec P {f} fn b() { return a(1, 2); } fn main() { } fn P(m) { }")
	var got []string
	for _, f := range c.Funcs {
		got = append(got, fmt.Sprint(f.Name, f.Params))
	}
	if !slices.Equal(got, []string{"a2", "b0", "main0", "P1"}) || c.Main != 2 || c.Merges != 0 {
		t.Error(got, c.Main, c.Merges)
	}
	for main := range 5 {
		s := numbered("fn f#() { } ", 0, main) + "fn main() { } " + numbered("fn f#() { } ", main, 4-main)
		if c := codeOf(t, s); c.Main != main || len(c.Funcs) != 5 || c.Funcs[main].Name != "main" {
			t.Error(c)
		}
	}
	// As many as may be, each called by its number.
	c = codeOf(t, numbered("fn f#(a) { return a + #; } ", 0, 100)+"fn main() { return "+strings.TrimSuffix(numbered("f#(1) ^ ", 0, 100), "^ ")+"; } "+numbered("fn g#() { return f#(#); } ", 0, 99))
	for n := range 100 {
		calls := slices.DeleteFunc(slices.Clone(c.Funcs[100].Code), func(i api.Ins) bool { return i.Op != api.InsCall || i.K != int64(n) })
		if len(c.Funcs) != 200 || len(calls) != 1 || c.Funcs[n].Name != fmt.Sprint("f", n) || c.Funcs[n].Params != 1 {
			t.Fatal(n, calls)
		}
	}
}

func TestParametersAreTheFirstRegisters(t *testing.T) { // P11.1, P11.3
	names := strings.TrimSuffix(numbered("p#, ", 0, 100), ", ")
	l := nodes(t, "fn f("+names+") { "+numbered("out p#; ", 0, 100)+" } fn main() { f("+strings.TrimSuffix(numbered("#, ", 500, 100), ", ")+"); }")
	c := made(t, l)
	if c.Funcs[0].Params != 100 || c.Funcs[0].Regs < 100 {
		t.Error(c.Funcs[0].Params, c.Funcs[0].Regs)
	}
	r := wantSame(t, l, c, wide)
	for n, v := range r.Out {
		if v != int64(500+n) {
			t.Fatal(r)
		}
	}
}

func TestPromotes(t *testing.T) { // P11.1, P11.3
	for _, x := range []struct {
		body     string
		promotes int
	}{
		{"return 1;", 0}, {"return promote(1);", 1}, {"let v = promote(in());", 1}, {"let v = 1; v = promote(v); return v;", 1}, {"let v = 1; return promote(v) + v;", 1},
		{"return promote(promote(promote(2)));", 3}, {"if promote(in()) { }", 1}, {"let n = 2; while promote(n) { n = promote(n - 1); }", 2}, {"return promote(1) * promote(2);", 2},
		{"root = promote(null); promote(new P).x = promote(4);", 3}, {"put(promote(1), put(2, promote(3)));", 2}, {"arr(promote(1))[promote(0)] = 1; out promote(len(promote(arr(3))));", 4},
		// Where it is never come to, too.
		{"return 1; out promote(2);", 1},
	} {
		f := mainOf(t, x.body)
		if got := count(f, api.InsPromote); got != x.promotes {
			t.Errorf("%d promotes of %d in %s:\n%s", got, x.promotes, x.body, ir.Show(f))
		}
		wantBodies(t, x.body)
	}
	// What is promoted is the value of its expression, which is asked for behind it.
	f := mainOf(t, "let v = in(); out promote(v * 2) + 1;")
	at := slices.IndexFunc(f.Code, func(i api.Ins) bool { return i.Op == api.InsPromote })
	if ahead, behind := f.Code[at-1], f.Code[at+2]; ahead.Op != api.InsBin || ir.Writes(ahead) != f.Code[at].B || behind.Op != api.InsBin || behind.B != f.Code[at].A {
		t.Error(ir.Show(f))
	}
}

// TestStepsOfStatements has for each kind of statement how many steps its code has; that they are taken where sem takes them is wanted beside it.
func TestStepsOfStatements(t *testing.T) { // P11.1, P11.3
	for _, x := range []struct {
		body  string
		steps int
	}{
		{"", 0}, {"let v = 1;", 1}, {"let v = 1; v = 2;", 2}, {"root = 1;", 1}, {"new P.x = 1;", 1}, {"arr(1)[0] = 1;", 1}, {"if 1 { }", 1}, {"if 1 { } else { }", 1}, {"if 1 { out 1; } else { out 2; out 3; }", 4},
		{"while 0 { }", 1}, {"while in() < 21 { out 1; }", 2}, {"return 1;", 1}, {"out 1;", 1}, {"stop 1;", 1}, {"put(1, 2);", 1}, {"let n = 2; while n { merge(n); n = n - 1; }", 3},
		{"return 1; out 2; stop 3;", 3}, {"if 0 { if 1 { stop 1; } } else { while 0 { let v = 1; } }", 5},
	} {
		f := mainOf(t, x.body)
		if got := count(f, api.InsStep); got != x.steps {
			t.Errorf("%d steps of %d in %s:\n%s", got, x.steps, x.body, ir.Show(f))
		}
		wantBodies(t, x.body)
	}
	// Expressions have none of their own.
	for _, e := range expressionTexts {
		if got := count(mainOf(t, "return "+e+";"), api.InsStep); got != 1 {
			t.Error(got, "steps of", e)
		}
	}
}

// TestNoMoreCodeThanIsComeTo has functions whose end is never come to: nothing is made for it.
func TestNoMoreCodeThanIsComeTo(t *testing.T) { // P11.1
	for _, body := range []string{"return 4;", "stop 4;", "if in() { return 4; } else { stop 4; }", "if in() { stop 4; } return 4;", "if in() { if in() { return 4; } else { return 4; } } else { return 4; }", "while 1 { } return 4;"} {
		f := mainOf(t, body)
		if at := slices.IndexFunc(f.Code, func(i api.Ins) bool { return i.Op == api.InsNum && i.K == 0 }); at >= 0 || count(f, api.InsJump) > 1 {
			t.Errorf("%s:\n%s", body, ir.Show(f))
		}
		wantBodies(t, body)
	}
	// These ends are come to.
	wantBodies(t, "if in() - 20 { return 4; }", "if in() - 20 { return 4; } else { }", "if in() { } else { return 4; }", "while 0 { return 4; }", "if 0 { stop 4; } else { while 0 { return 4; } }", "if 1 { out 1; } else { return 4; }")
}
