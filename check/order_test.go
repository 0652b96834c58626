package check

import (
	"testing"

	"swath/api"
)

// wrong is a text with something wrong in it, and its error; @ stands at the place, if it isn't 0.
type wrong struct {
	text string
	e    api.Errno
}

// TestOrderOfDeclarations has two things wrong at a time, the one that is looked at first behind the other in the text, then ahead of it.
func TestOrderOfDeclarations(t *testing.T) { // P8.1
	tooMany := numbered("a#", 0, api.MaxFields+1, ", ")
	// As they are looked at: names don't clash between them.
	order := []wrong{
		{numbered("rec R# {}", 0, api.MaxRecs+1, " "), api.ErrLong},
		{numbered("fn F#() {}", 0, api.MaxFns+1, " "), api.ErrLong},
		{"rec P {} rec @P {}", api.ErrScope},
		{"fn f() {} fn @f() {}", api.ErrScope},
		{"fn main(m) {}", api.ErrMain},
		{"fn @g(" + numbered("p#", 0, api.MaxVars+1, ", ") + ") {}", api.ErrLong},
	}
	for i, first := range order {
		for _, second := range order[i+1:] {
			// Each but the one about main wants one.
			main := "fn main() {}"
			if second.e == api.ErrMain || first.e == api.ErrMain {
				main = ""
			}
			wantFirst(t, first, main, unmarked(second.text), first.text)
			wantFirst(t, first, main, first.text, unmarked(second.text))
		}
	}
	// Of one record: the name, how many fields, each field.
	wantFault(t, "rec P {} rec @P {"+tooMany+"} fn main() {}", api.ErrScope)
	wantFault(t, "rec P {} rec @P {x, x} fn main() {}", api.ErrScope)
	wantFault(t, "rec @P {x, x, "+tooMany+"} fn main() {}", api.ErrLong)
	// Record by record: each with its fields ahead of the next one.
	wantFault(t, "rec @P {"+tooMany+"} rec Q {} rec Q {} fn main() {}", api.ErrLong)
	wantFault(t, "rec P {x, @x} rec Q {} rec Q {} fn main() {}", api.ErrScope)
	wantFault(t, "rec P {x, @x} rec Q {"+tooMany+"} fn main() {}", api.ErrScope)
	wantFault(t, "rec P {x} rec Q {@x} rec P {} fn main() {}", api.ErrScope)
	wantFault(t, "rec P {x} rec @P {} rec Q {x} fn main() {}", api.ErrScope)
	wantFault(t, "fn f(a, a) { return v; } fn f() {} rec P {x} rec Q {@x}", api.ErrScope)
}

// wantFirst wants what is wrong with the first thing, of texts behind one another.
func wantFirst(t *testing.T, first wrong, texts ...string) {
	t.Helper()
	s := ""
	for _, text := range texts {
		s += text + "\n"
	}
	if unmarked(s) == s {
		wantPlace(t, s, 0, first.e)
		return
	}
	wantFault(t, s, first.e)
}

// unmarked is a text without its mark.
func unmarked(s string) string {
	for i := range len(s) {
		if s[i] == '@' {
			return s[:i] + s[i+1:]
		}
	}
	return s
}

// TestOrderOfFunctions has things wrong in several functions, and in several parts of one.
func TestOrderOfFunctions(t *testing.T) { // P8.1
	tooMany := numbered("let v# = 1;", 0, api.MaxVars+1, " ")
	for _, s := range []wrong{
		// Function by function.
		{"fn f() { return @v; } fn g(a, a) {} fn main() {}", api.ErrScope},
		{"fn f() { return @v; } fn g() { " + tooMany + " } fn main() {}", api.ErrScope},
		{"fn f(a, @a) {} fn g() { " + tooMany + " } fn main() {}", api.ErrScope},
		{"fn main() { @merge(); } fn g(a, a) {}", api.ErrHint},
		{"fn g(a, @a) {} fn main() { merge(); }", api.ErrScope},
		// How many variables, parameters, the body.
		{"fn @f(a, a) { " + tooMany + " } fn main() {}", api.ErrLong},
		{"fn @f(a) { return w; let a = 1; " + tooMany + " } fn main() {}", api.ErrLong},
		{"fn f(a, @a) { return v; let a = 1; merge(); } fn main() {}", api.ErrScope},
		// Names of functions, and main, ahead of all bodies.
		{"fn f(a, a) { return v; } fn main() {} fn @main() {}", api.ErrScope},
	} {
		wantFault(t, s.text, s.e)
	}
	wantPlace(t, "fn f(a, a) { return v; merge(); }", 0, api.ErrMain)
	wantPlace(t, "fn main(a, a) { return v; }", 0, api.ErrMain)
}

// TestOrderInBodies has several things wrong in a body: each node comes ahead of its kids, these in order.
func TestOrderInBodies(t *testing.T) { // P8.1
	for _, body := range []wrong{
		{"return @u; return v;", api.ErrScope},
		{"@merge(); return v;", api.ErrHint},
		{"return @v; merge();", api.ErrScope},
		{"@g(); k();", api.ErrArity},
		{"@k(); g();", api.ErrScope},
		// A let ahead of its expression, but no name of a set.
		{"let @a = v;", api.ErrScope},
		{"let @a = g();", api.ErrScope},
		{"let v = @g(); let v = 1;", api.ErrArity},
		{"@v = g();", api.ErrScope},
		{"a = @g(); v = 1;", api.ErrArity},
		{"@g()[u] = v;", api.ErrArity},
		{"a[@v] = g();", api.ErrScope},
		// Calls: the function, how many arguments, each.
		{"@k(v, g());", api.ErrScope},
		{"@g(v);", api.ErrArity},
		{"@g(k(), u, v);", api.ErrArity},
		{"g(@h(1), v);", api.ErrArity},
		{"g(@v, h(1));", api.ErrScope},
		{"g(1, @h(1)) ; g(v, 1);", api.ErrArity},
		// Fields ahead of what they are of.
		{"return v@.k;", api.ErrScope},
		{"return g()@.k;", api.ErrScope},
		{"return g(1)@.k.x;", api.ErrScope},
		{"return a.k@.m;", api.ErrScope},
		{"return @g(1).x.y;", api.ErrArity},
		// Sides from the left.
		{"return @u + v;", api.ErrScope},
		{"return g(1, 2) + @g(1) + v;", api.ErrArity},
		{"return @v + g(1);", api.ErrScope},
		{"return @g()[v];", api.ErrArity},
		{"return @u[v];", api.ErrScope},
		{"return (new @K)[g()];", api.ErrScope},
		// Conditions ahead of blocks, blocks in order.
		{"if @v { merge(); } else { g(); }", api.ErrScope},
		{"if a { @merge(); } else { g(); }", api.ErrHint},
		{"if a { } else { @g(); } merge();", api.ErrArity},
		{"while @v { g(); merge(); }", api.ErrScope},
		{"while a { merge(); @g(); merge(); }", api.ErrArity},
		{"while @g() { merge(v); }", api.ErrArity},
		// Of a merge where it stands, how many names, each name.
		{"@merge(v, v);", api.ErrHint},
		{"while a { a = 1; @merge(v); }", api.ErrHint},
		{"@merge(a, a, a, a, a);", api.ErrHint},
		{"while a { @merge(a, a, v, v, v); }", api.ErrHint},
		{"while a { merge(a, @a, v); }", api.ErrScope},
		{"while a { merge(a, @v, a); }", api.ErrScope},
		{"while a { merge(@v, v); }", api.ErrScope},
		{"while a { merge(a, b, @b, a); g(); }", api.ErrScope},
		{"while a { merge(@v); g(); merge(); }", api.ErrScope},
	} {
		wantBody(t, body.text, body.e)
	}
}
