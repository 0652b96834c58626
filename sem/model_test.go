package sem

import (
	"fmt"
	"math/big"
	"strings"

	"swath/api"
)

// The model does descriptions in another way than the program: functions are made into words of a machine with one stack of values, which has things, numbers and calls of its own.

// word is one thing that the machine does.
type word struct {
	does string
	text string
	n    int
}

// model is a description as words, and a machine.
type model struct {
	nodes  []api.Node
	bodies map[string][]word
	names  map[string][]string
	sorts  map[string]api.Node
	fields map[string][2]int
	number map[string]int
	things []*thing
	root   api.Value
	out    []int64
	stack  []api.Value
	calls  []frame
}

type thing struct {
	sort  int
	cells []api.Value
}

type frame struct {
	words []word
	at    int
	vars  map[string]api.Value
}

func modelOf(l []api.Node) *model {
	m := &model{nodes: l, bodies: map[string][]word{}, names: map[string][]string{}, sorts: map[string]api.Node{}, fields: map[string][2]int{}, number: map[string]int{}}
	for _, k := range l[len(l)-1].Kids {
		node := l[k]
		if node.Kind == api.NodeRec {
			for at, f := range node.Kids {
				m.fields[l[f].Text] = [2]int{len(m.sorts), at}
			}
			m.number[node.Text] = len(m.sorts)
			m.sorts[node.Text] = node
			continue
		}
		last := len(node.Kids) - 1
		for _, p := range node.Kids[:last] {
			m.names[node.Text] = append(m.names[node.Text], l[p].Text)
		}
		m.bodies[node.Text] = append(m.words(node.Kids[last]), word{"push", "", 0}, word{does: "back"})
	}
	return m
}

// words are what a node is made into.
func (m *model) words(n int) []word {
	node := m.nodes[n]
	var kids [][]word
	for _, k := range node.Kids {
		kids = append(kids, m.words(k))
	}
	var all []word
	for _, k := range kids {
		all = append(all, k...)
	}
	step := word{does: "step"}
	then := func(does, text string, n int) []word { return append(all, word{does, text, n}) }
	statement := func(does, text string) []word { return append([]word{step}, then(does, text, 0)...) }
	switch node.Kind {
	case api.NodeBlock:
		return all
	case api.NodeMerge, api.NodeNone:
		return nil
	case api.NodeLet:
		return statement("lay", node.Text)
	case api.NodeSet:
		return m.set(node, kids)
	case api.NodeIf:
		one, other := kids[1], kids[2]
		l := append(append([]word{step}, kids[0]...), word{"skip if 0", "", len(one) + 1})
		return append(append(append(l, one...), word{"skip", "", len(other)}), other...)
	case api.NodeWhile:
		l := append(append([]word{step}, kids[0]...), word{"skip if 0", "", len(kids[1]) + 1})
		l = append(l, kids[1]...)
		return append(l, word{"skip", "", -len(l) - 1})
	case api.NodeReturn:
		return statement("back", "")
	case api.NodeOut, api.NodeStop, api.NodeDo:
		return statement(map[int]string{api.NodeOut: "out", api.NodeStop: "stop", api.NodeDo: "drop"}[node.Kind], "")
	case api.NodePromote:
		return all
	}
	does := map[int]string{api.NodeNum: "number", api.NodeNull: "null", api.NodeName: "read", api.NodeUnary: "one", api.NodeBin: "two", api.NodeField: "field", api.NodeElem: "elem",
		api.NodeCall: "call", api.NodeNew: "new", api.NodeArr: "arr", api.NodeLen: "len", api.NodeIn: "in", api.NodeImg: "img", api.NodeSize: "size", api.NodeRoot: "root"}[node.Kind]
	return then(does, node.Text, len(kids))
}

func (m *model) set(node api.Node, kids [][]word) []word {
	place := m.nodes[node.Kids[0]]
	l := []word{{does: "step"}}
	for _, k := range place.Kids {
		l = append(l, m.words(k)...)
	}
	does := map[int]string{api.NodeName: "lay", api.NodeField: "set field", api.NodeElem: "set elem", api.NodeRoot: "set root"}[place.Kind]
	return append(append(l, kids[1]...), word{does: does, text: place.Text})
}

func (m *model) push(v api.Value) { m.stack = append(m.stack, v) }

func (m *model) pop() api.Value {
	v := m.stack[len(m.stack)-1]
	m.stack = m.stack[:len(m.stack)-1]
	return v
}

func (m *model) enter(name string) {
	vars := map[string]api.Value{}
	names := m.names[name]
	for i := len(names) - 1; i >= 0; i-- {
		vars[names[i]] = m.pop()
	}
	m.calls = append(m.calls, frame{m.bodies[name], 0, vars})
}

// result does the description and tells its result as told does.
func (m *model) result(image, input []int64, lim api.Limits) string {
	var r api.Result
	depth := min(max(1, lim.Depth), 1000)
	end := func(how string, v api.Value) string {
		r.Out = m.out
		return tellWith(how, m.shown(v), r)
	}
	m.enter("main")
	for {
		f := &m.calls[len(m.calls)-1]
		w := f.words[f.at]
		f.at++
		switch w.does {
		case "step":
			if r.Steps >= lim.Fuel {
				return end("fuel", api.Value{})
			}
			r.Steps++
			continue
		case "back":
			m.calls = m.calls[:len(m.calls)-1]
			if len(m.calls) == 0 {
				return end("halt", m.pop())
			}
			continue
		case "stop":
			return end("halt", m.pop())
		case "call":
			if len(m.calls) >= depth {
				return end("depth", api.Value{})
			}
			m.enter(w.text)
			continue
		case "in":
			m.push(null)
			if r.Read < len(input) {
				m.stack[len(m.stack)-1] = num(input[r.Read])
				r.Read++
			}
			continue
		case "new", "arr":
			if trap := m.making(w, lim.Cells, &r.Cells); trap != "" {
				return end(trap, api.Value{})
			}
			continue
		}
		if trap := m.simple(w, f, image); trap != "" {
			return end(trap, api.Value{})
		}
	}
}

func (m *model) making(w word, limit int, used *int) string {
	made := &thing{sort: -1}
	n := int64(0)
	if w.does == "new" {
		n = int64(len(m.sorts[w.text].Kids))
		made.sort = m.number[w.text]
	} else {
		v := m.pop()
		if v.Kind != api.Int {
			return "type"
		}
		if n = v.N; n < 0 {
			return "index"
		}
	}
	if n >= int64(min(limit, 10000000)-*used) {
		return "cells"
	}
	*used += int(n) + 1
	made.cells = make([]api.Value, n)
	m.push(ref(int64(len(m.things))))
	m.things = append(m.things, made)
	return ""
}

// simple does a word that takes values and makes at most one; it answers the trap's name.
func (m *model) simple(w word, f *frame, image []int64) string {
	switch w.does {
	case "push":
		m.push(num(int64(w.n)))
	case "number":
		n, _ := new(big.Int).SetString(w.text, 10)
		m.push(num(n.Int64()))
	case "null":
		m.push(null)
	case "read":
		v, is := f.vars[w.text]
		if !is {
			panic("a variable that was never laid down: " + w.text)
		}
		m.push(v)
	case "lay":
		f.vars[w.text] = m.pop()
	case "drop":
		m.pop()
	case "root":
		m.push(m.root)
	case "set root":
		m.root = m.pop()
	case "size":
		m.push(num(int64(len(image))))
	case "skip":
		f.at += w.n
	case "skip if 0", "out", "img", "one":
		return m.ofNumber(w, f, image)
	case "two":
		return m.two(w.text)
	default:
		return m.ofThing(w)
	}
	return ""
}

func (m *model) ofNumber(w word, f *frame, image []int64) string {
	v := m.pop()
	if v.Kind != api.Int {
		return "type"
	}
	switch {
	case w.does == "out":
		m.out = append(m.out, v.N)
	case w.does == "skip if 0":
		if v.N == 0 {
			f.at += w.n
		}
	case w.does == "img":
		if v.N < 0 || v.N >= int64(len(image)) {
			return "index"
		}
		m.push(num(image[v.N]))
	case w.text == "-":
		m.push(wrapped(new(big.Int).Neg(big.NewInt(v.N))))
	case w.text == "~":
		m.push(num(-1 - v.N))
	default:
		m.push(yes(v.N == 0))
	}
	return ""
}

func yes(is bool) api.Value {
	if is {
		return num(1)
	}
	return num(0)
}

// wrapped is a number of any length cut to 64 bits.
func wrapped(z *big.Int) api.Value {
	low := new(big.Int).And(z, new(big.Int).SetUint64(1<<64-1))
	return num(int64(low.Uint64()))
}

func (m *model) two(sign string) string {
	b, a := m.pop(), m.pop()
	if sign == "==" || sign == "!=" {
		m.push(yes((a.Kind == b.Kind && a.N == b.N) == (sign == "==")))
		return ""
	}
	if a.Kind != api.Int || b.Kind != api.Int {
		return "type"
	}
	x, y, z := big.NewInt(a.N), big.NewInt(b.N), new(big.Int)
	by := uint(b.N & 63)
	switch sign {
	case "+":
		z.Add(x, y)
	case "-":
		z.Sub(x, y)
	case "*":
		z.Mul(x, y)
	case "/", "%":
		if b.N == 0 {
			return "div"
		}
		q, rest := z.QuoRem(x, y, new(big.Int))
		if z = q; sign == "%" {
			z = rest
		}
	case "<<":
		z.Lsh(x, by)
	case ">>":
		z.Rsh(x, by)
	case "&":
		z.And(x, y)
	case "|":
		z.Or(x, y)
	case "^":
		z.Xor(x, y)
	case "<":
		z.SetInt64(yes(x.Cmp(y) < 0).N)
	case "<=":
		z.SetInt64(yes(x.Cmp(y) <= 0).N)
	}
	m.push(wrapped(z))
	return ""
}

// ofThing reads or sets a cell or a length.
func (m *model) ofThing(w word) string {
	var x, at api.Value
	setting := strings.HasPrefix(w.does, "set")
	if setting {
		x = m.pop()
	}
	element := strings.HasSuffix(w.does, "elem")
	if element {
		at = m.pop()
	}
	v := m.pop()
	if v.Kind != api.Ref {
		return map[int]string{api.Null: "null", api.Int: "type"}[v.Kind]
	}
	o := m.things[v.N]
	place := int64(0)
	switch {
	case element && (o.sort >= 0 || at.Kind != api.Int), w.does == "len" && o.sort >= 0:
		return "type"
	case element:
		if place = at.N; place < 0 || place >= int64(len(o.cells)) {
			return "index"
		}
	case w.does == "len":
		m.push(num(int64(len(o.cells))))
		return ""
	case o.sort != m.fields[w.text][0]:
		return "type"
	default:
		place = int64(m.fields[w.text][1])
	}
	if setting {
		o.cells[place] = x
	} else {
		m.push(o.cells[place])
	}
	return ""
}

// shown is the value, and the root if it isn't the number 0, as iso.Show tells them.
func (m *model) shown(v api.Value) string {
	seen := map[int64]int{}
	var tell func(v api.Value) string
	tell = func(v api.Value) string {
		switch v.Kind {
		case api.Int:
			return fmt.Sprint(v.N)
		case api.Null:
			return "null"
		}
		if n, is := seen[v.N]; is {
			return fmt.Sprint("@", n)
		}
		s := fmt.Sprint("@", len(seen))
		seen[v.N] = len(seen)
		o := m.things[v.N]
		var cells []string
		for _, c := range o.cells {
			cells = append(cells, tell(c))
		}
		if o.sort < 0 {
			return s + "[" + strings.Join(cells, " ") + "]"
		}
		return s + "{" + strings.Join(append([]string{fmt.Sprint(o.sort)}, cells...), " ") + "}"
	}
	s := tell(v)
	if m.root != (api.Value{}) {
		s += " " + tell(m.root)
	}
	return s
}
