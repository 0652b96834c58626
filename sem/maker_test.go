package sem

import (
	"fmt"
	"math/rand"
	"strings"
)

// maker makes descriptions by chance that are taken, most of whose expressions are of the sort that is wanted where they stand:
// i a number, p and q records, a an array, n anything.
type maker struct {
	*rand.Rand
	scope []variable
	names int
	hints bool
}

type variable struct {
	name string
	sort byte
}

const made = "rec P {x, y} rec Q {z, w} rec E {} fn same(v) { return v; }\n"

var functions = []struct {
	name  string
	takes string
	gives byte
}{{"main", "", 'i'}, {"f", "i", 'i'}, {"g", "pi", 'p'}, {"h", "ia", 'a'}, {"k", "nnn", 'n'}}

func (m *maker) pick(l ...string) string { return l[m.Intn(len(l))] }

func (m *maker) program() string {
	var parts []string
	for _, f := range functions {
		m.scope, m.names = nil, 0
		var names []string
		for _, sort := range []byte(f.takes) {
			names = append(names, m.declare(sort))
		}
		most := 4
		if f.name == "main" {
			most = 12
		}
		body := m.block(most, 3, false)
		if m.Intn(3) > 0 {
			body = strings.TrimSuffix(body, "}") + "return " + m.expression(f.gives, 3) + "; }"
		}
		parts = append(parts, "fn "+f.name+"("+strings.Join(names, ", ")+") "+body)
	}
	m.Shuffle(len(parts), func(i, j int) { parts[i], parts[j] = parts[j], parts[i] })
	return made + strings.Join(parts, "\n")
}

func (m *maker) declare(sort byte) string {
	name := string(sort) + fmt.Sprint(m.names)
	m.names++
	m.scope = append(m.scope, variable{name, sort})
	return name
}

// variable is one of that sort that is in scope, or none.
func (m *maker) variable(sort byte) string {
	var l []string
	for _, v := range m.scope {
		if v.sort == sort || sort == 'n' {
			l = append(l, v.name)
		}
	}
	if len(l) == 0 {
		return ""
	}
	return m.pick(l...)
}

func (m *maker) block(statements, deep int, looped bool) string {
	about := len(m.scope)
	var l []string
	if looped && m.hints && m.Intn(3) > 0 {
		l = append(l, m.merge())
	}
	for range m.Intn(statements + 1) {
		l = append(l, m.statement(deep))
	}
	m.scope = m.scope[:about]
	return "{ " + strings.Join(append(l, "}"), " ")
}

func (m *maker) merge() string {
	var l []string
	for _, i := range m.Perm(len(m.scope)) {
		if len(l) < 4 && m.Intn(2) == 0 {
			l = append(l, m.scope[i].name)
		}
	}
	return "merge(" + strings.Join(l, ", ") + ");"
}

func (m *maker) statement(deep int) string {
	k := m.Intn(20)
	if deep == 0 {
		k = m.Intn(13)
	}
	switch {
	case k < 5:
		sort := "iiipqan"[m.Intn(7)]
		value := m.expression(sort, 2)
		return "let " + m.declare(sort) + " = " + value + ";"
	case k < 9:
		return m.set()
	case k < 11:
		return "out " + m.expression('i', 2) + ";"
	case k == 11:
		return m.call(2) + ";"
	case k == 12:
		if m.Intn(4) > 0 {
			return "out " + m.expression('i', 1) + ";"
		}
		return m.pick("return ", "stop ") + m.expression('n', 2) + ";"
	case k < 16:
		s := "if " + m.expression('i', 2) + " " + m.block(3, deep-1, false)
		if m.Intn(2) == 0 {
			s += " else " + m.block(3, deep-1, false)
		}
		return s
	case k < 19:
		// A loop that comes to an end, unless its counter is set within.
		times := fmt.Sprint(1 + m.Intn(4))
		n := m.declare('i')
		body := strings.TrimSuffix(m.block(3, deep-1, true), "}") + n + " = " + n + " - 1; }"
		return "let " + n + " = " + times + "; while " + n + " " + body
	}
	return "while " + m.expression('i', 2) + " " + m.block(4, deep-1, true)
}

func (m *maker) set() string {
	sort := "iiipqan"[m.Intn(7)]
	if v := m.variable(sort); v != "" && m.Intn(2) == 0 {
		return v + " = " + m.expression(sort, 2) + ";"
	}
	switch m.Intn(4) {
	case 0:
		return "root = " + m.expression('n', 2) + ";"
	case 1:
		return m.bracketed('p', 1) + m.pick(".x", ".y") + " = " + m.expression('n', 2) + ";"
	case 2:
		return m.bracketed('q', 1) + m.pick(".z", ".w") + " = " + m.expression('n', 2) + ";"
	}
	return m.bracketed('a', 1) + "[" + m.index() + "] = " + m.expression('n', 2) + ";"
}

func (m *maker) index() string {
	if m.Intn(4) > 0 {
		return m.pick("0", "0", "1", "2")
	}
	return m.expression('i', 1)
}

// bracketed is an expression that may stand ahead of a dot or a bracket; statements may not begin with a bracket.
func (m *maker) bracketed(sort byte, deep int) string {
	if v := m.variable(sort); v != "" && m.Intn(8) > 0 {
		return v
	}
	if m.Intn(9) == 0 {
		return "root"
	}
	return "same(" + m.expression(sort, deep) + ")"
}

func (m *maker) call(deep int) string {
	f := functions[m.Intn(len(functions))]
	var l []string
	for _, sort := range []byte(f.takes) {
		l = append(l, m.expression(sort, deep-1))
	}
	return f.name + "(" + strings.Join(l, ", ") + ")"
}

func (m *maker) expression(sort byte, deep int) string {
	if m.Intn(150) == 0 {
		sort = "ipqan"[m.Intn(5)]
	}
	if deep > 0 && m.hints && m.Intn(10) == 0 {
		return "promote(" + m.expression(sort, deep-1) + ")"
	}
	if v := m.variable(sort); v != "" && m.Intn(2) == 0 {
		return v
	}
	switch sort {
	case 'i':
		return m.number(deep)
	case 'p':
		return m.thing("new P", "g(", "pi", deep)
	case 'q':
		return m.pick("new Q", "new Q", "new Q", "new Q", "new Q", "root")
	case 'a':
		return m.thing("arr("+m.pick("3", "3", "4", "2", "0")+")", "h(", "ia", deep)
	}
	if m.Intn(3) == 0 {
		return m.pick("null", "root", "in()", "new E", "null")
	}
	return m.expression("ipqa"[m.Intn(4)], deep)
}

// thing is a new one mostly, or one that a call answers.
func (m *maker) thing(making, call, takes string, deep int) string {
	if deep > 0 && m.Intn(9) == 0 {
		return call + m.expression(takes[0], deep-1) + ", " + m.expression(takes[1], deep-1) + ")"
	}
	if m.Intn(20) == 0 {
		return m.pick("root", "null")
	}
	return making
}

func (m *maker) number(deep int) string {
	if deep <= 0 || m.Intn(4) == 0 {
		return m.pick("0", "1", "1", "2", "3", "5", "9223372036854775807", "size()", "in()")
	}
	switch m.Intn(10) {
	case 0:
		return m.pick("-", "!", "~") + "(" + m.expression('i', deep-1) + ")"
	case 1, 2, 3, 4:
		sign := m.pick("+", "-", "*", "<<", ">>", "&", "|", "^", "<", "<=", "==", "!=", "/", "%")
		return "(" + m.expression('i', deep-1) + " " + sign + " " + m.expression('i', deep-1) + ")"
	case 5:
		sort := "ipqan"[m.Intn(5)]
		return "(" + m.expression(sort, deep-1) + m.pick(" == ", " != ") + m.expression(sort, deep-1) + ")"
	case 6:
		return "len(" + m.expression('a', deep-1) + ")"
	case 7:
		return m.pick("img("+m.index()+")", "f("+m.expression('i', deep-1)+")")
	case 8:
		return m.bracketed('p', deep-1) + m.pick(".x", ".y")
	}
	return m.bracketed('a', deep-1) + "[" + m.index() + "]"
}
