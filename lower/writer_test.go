package lower

import (
	"fmt"
	"math/rand"
	"strings"
)

// writer writes descriptions by chance that are taken, most of whose expressions are of the sort that is wanted where they stand:
// i a number, p and q records, a an array, n anything.
type writer struct {
	*rand.Rand
	scope []variable
	hints bool
}

type variable struct {
	name string
	sort byte
}

const ahead = "rec P {x, y} rec Q {z, w} rec E {} fn same(v) { return v; }" + seen + "\n"

var functions = []struct {
	name  string
	takes string
	gives byte
}{{"main", "", 'i'}, {"f", "i", 'i'}, {"g", "pi", 'p'}, {"h", "ia", 'a'}, {"k", "nnn", 'n'}}

func (w *writer) pick(l ...string) string { return l[w.Intn(len(l))] }

func (w *writer) program() string {
	var parts []string
	for _, f := range functions {
		w.scope = nil
		var names []string
		for _, sort := range []byte(f.takes) {
			names = append(names, w.declare(sort))
		}
		most := 4
		if f.name == "main" {
			most = 12
		}
		body := w.block(most, 3, false)
		if w.Intn(3) > 0 {
			body = strings.TrimSuffix(body, "}") + "return " + w.expression(f.gives, 3) + "; }"
		}
		parts = append(parts, "fn "+f.name+"("+strings.Join(names, ", ")+") "+body)
	}
	w.Shuffle(len(parts), func(i, j int) { parts[i], parts[j] = parts[j], parts[i] })
	return ahead + withNumbers(strings.Join(parts, "\n"))
}

// withNumbers puts the numbers of merges in the place of the # behind them.
func withNumbers(s string) string {
	parts := strings.Split(s, "merge(")
	for n := range parts[1:] {
		parts[n+1] = strings.Replace(parts[n+1], "#", fmt.Sprint(n), 1)
	}
	return strings.Join(parts, "merge(")
}

// declare is a name that is not in scope, but may have been.
func (w *writer) declare(sort byte) string {
	name := string(sort) + fmt.Sprint(len(w.scope))
	w.scope = append(w.scope, variable{name, sort})
	return name
}

// variable is one of that sort that is in scope, or none.
func (w *writer) variable(sort byte) string {
	var l []string
	for _, v := range w.scope {
		if v.sort == sort || sort == 'n' {
			l = append(l, v.name)
		}
	}
	if len(l) == 0 {
		return ""
	}
	return w.pick(l...)
}

func (w *writer) block(statements, deep int, looped bool) string {
	about := len(w.scope)
	var l []string
	if looped && w.hints && w.Intn(3) > 0 {
		l = append(l, w.merge())
	}
	for range w.Intn(statements + 1) {
		l = append(l, w.statement(deep))
	}
	w.scope = w.scope[:about]
	return "{ " + strings.Join(append(l, "}"), " ")
}

func (w *writer) merge() string {
	var l []string
	for _, i := range w.Perm(len(w.scope)) {
		if len(l) < 4 && w.Intn(2) == 0 {
			l = append(l, w.scope[i].name)
		}
	}
	s := "merge(" + strings.Join(l, ", ") + ");"
	if w.Intn(3) > 0 {
		s += fmt.Sprint(" seen", len(l), "(", strings.Join(append([]string{"#"}, l...), ", "), ");")
	}
	return s
}

func (w *writer) statement(deep int) string {
	k := w.Intn(20)
	if deep == 0 {
		k = w.Intn(13)
	}
	switch {
	case k < 5:
		sort := "iiipqan"[w.Intn(7)]
		value := w.expression(sort, 2)
		return "let " + w.declare(sort) + " = " + value + ";"
	case k < 9:
		return w.set()
	case k < 11:
		return "out " + w.expression('i', 2) + ";"
	case k == 11:
		return w.call(2) + ";"
	case k == 12:
		if w.Intn(4) > 0 {
			return "out " + w.expression('i', 1) + ";"
		}
		return w.pick("return ", "stop ") + w.expression('n', 2) + ";"
	case k < 16:
		s := "if " + w.expression('i', 2) + " " + w.block(3, deep-1, false)
		if w.Intn(2) == 0 {
			s += " else " + w.block(3, deep-1, false)
		}
		return s
	case k < 19:
		// A loop that comes to an end, unless its counter is set within.
		times := fmt.Sprint(1 + w.Intn(4))
		n := w.declare('i')
		body := strings.TrimSuffix(w.block(3, deep-1, true), "}") + n + " = " + n + " - 1; }"
		return "let " + n + " = " + times + "; while " + n + " " + body
	}
	return "while " + w.expression('i', 2) + " " + w.block(4, deep-1, true)
}

func (w *writer) set() string {
	sort := "iiipqan"[w.Intn(7)]
	if v := w.variable(sort); v != "" && w.Intn(2) == 0 {
		return v + " = " + w.expression(sort, 2) + ";"
	}
	switch w.Intn(4) {
	case 0:
		return "root = " + w.expression('n', 2) + ";"
	case 1:
		return w.bracketed('p', 1) + w.pick(".x", ".y") + " = " + w.expression('n', 2) + ";"
	case 2:
		return w.bracketed('q', 1) + w.pick(".z", ".w") + " = " + w.expression('n', 2) + ";"
	}
	return w.bracketed('a', 1) + "[" + w.index() + "] = " + w.expression('n', 2) + ";"
}

func (w *writer) index() string {
	if w.Intn(4) > 0 {
		return w.pick("0", "0", "1", "2")
	}
	return w.expression('i', 1)
}

// bracketed is an expression that may stand ahead of a dot or a bracket; statements may not begin with a bracket.
func (w *writer) bracketed(sort byte, deep int) string {
	if v := w.variable(sort); v != "" && w.Intn(8) > 0 {
		return v
	}
	if w.Intn(9) == 0 {
		return "root"
	}
	return "same(" + w.expression(sort, deep) + ")"
}

func (w *writer) call(deep int) string {
	f := functions[w.Intn(len(functions))]
	var l []string
	for _, sort := range []byte(f.takes) {
		l = append(l, w.expression(sort, deep-1))
	}
	return f.name + "(" + strings.Join(l, ", ") + ")"
}

func (w *writer) expression(sort byte, deep int) string {
	if w.Intn(150) == 0 {
		sort = "ipqan"[w.Intn(5)]
	}
	if deep > 0 && w.hints && w.Intn(10) == 0 {
		return "promote(" + w.expression(sort, deep-1) + ")"
	}
	if v := w.variable(sort); v != "" && w.Intn(2) == 0 {
		return v
	}
	switch sort {
	case 'i':
		return w.number(deep)
	case 'p':
		return w.thing("new P", "g(", "pi", deep)
	case 'q':
		return w.pick("new Q", "new Q", "new Q", "new Q", "new Q", "root")
	case 'a':
		return w.thing("arr("+w.pick("3", "3", "4", "2", "0")+")", "h(", "ia", deep)
	}
	if w.Intn(3) == 0 {
		return w.pick("null", "root", "in()", "new E", "null")
	}
	return w.expression("ipqa"[w.Intn(4)], deep)
}

// thing is a new one mostly, or one that a call answers.
func (w *writer) thing(making, call, takes string, deep int) string {
	if deep > 0 && w.Intn(9) == 0 {
		return call + w.expression(takes[0], deep-1) + ", " + w.expression(takes[1], deep-1) + ")"
	}
	if w.Intn(20) == 0 {
		return w.pick("root", "null")
	}
	return making
}

func (w *writer) number(deep int) string {
	if deep <= 0 || w.Intn(4) == 0 {
		return w.pick("0", "1", "1", "2", "3", "5", "9223372036854775807", "size()", "in()")
	}
	switch w.Intn(10) {
	case 0:
		return w.pick("-", "!", "~") + "(" + w.expression('i', deep-1) + ")"
	case 1, 2, 3, 4:
		sign := w.pick("+", "-", "*", "<<", ">>", "&", "|", "^", "<", "<=", "==", "!=", "/", "%")
		return "(" + w.expression('i', deep-1) + " " + sign + " " + w.expression('i', deep-1) + ")"
	case 5:
		sort := "ipqan"[w.Intn(5)]
		return "(" + w.expression(sort, deep-1) + w.pick(" == ", " != ") + w.expression(sort, deep-1) + ")"
	case 6:
		return "len(" + w.expression('a', deep-1) + ")"
	case 7:
		return w.pick("img("+w.index()+")", "f("+w.expression('i', deep-1)+")")
	case 8:
		return w.bracketed('p', deep-1) + w.pick(".x", ".y")
	}
	return w.bracketed('a', deep-1) + "[" + w.index() + "]"
}
