package check

import (
	"cmp"
	"slices"

	"swath/api"
	"swath/tree"
)

// found is something that is wrong: when it is looked at (which round, how far into Walk's order, what of that node), where it is, which rule it breaks.
type found struct {
	round int
	place int
	what  int
	at    int
	e     api.Errno
	rule  string
}

// model finds all that is wrong with a tree, rule by rule as the chapter says them, and takes what is looked at first.
type model struct {
	l     []api.Node
	up    []int
	order []int
	place []int
	found []found
}

func modelOf(l []api.Node) *model {
	m := &model{l: l, up: tree.Parents(l), place: make([]int, len(l))}
	for n := range tree.Walk(l) {
		m.place[n] = len(m.order)
		m.order = append(m.order, n)
	}
	m.declarations()
	m.functions()
	m.names()
	m.calls()
	m.merges()
	return m
}

// all are the nodes of a kind, in Walk's order.
func (m *model) all(kind int) []int {
	var l []int
	for _, n := range m.order {
		if m.l[n].Kind == kind {
			l = append(l, n)
		}
	}
	return l
}

func (m *model) wrong(round, n, what int, e api.Errno, rule string) {
	m.found = append(m.found, found{round, m.place[n], what, m.l[n].At, e, rule})
}

func (m *model) wrongWhole(round int, e api.Errno, rule string) {
	m.found = append(m.found, found{round: round, e: e, rule: rule})
}

// alike finds each node of a row that has the Text of one ahead of it.
func (m *model) alike(round, what int, row []int, rule string) {
	for i, n := range row {
		if slices.ContainsFunc(row[:i], func(other int) bool { return m.l[other].Text == m.l[n].Text }) {
			m.wrong(round, n, what, api.ErrScope, rule)
		}
	}
}

func (m *model) declarations() {
	records, functions := m.all(api.NodeRec), m.all(api.NodeFn)
	if len(records) > api.MaxRecs {
		m.wrongWhole(0, api.ErrLong, "how many records")
	}
	if len(functions) > api.MaxFns {
		m.wrongWhole(0, api.ErrLong, "how many functions")
	}
	m.alike(1, 0, records, "records alike")
	var fields []int
	for _, n := range records {
		if len(m.l[n].Kids) > api.MaxFields {
			m.wrong(1, n, 1, api.ErrLong, "how many fields")
		}
		fields = append(fields, m.l[n].Kids...)
	}
	m.alike(1, 0, fields, "fields alike")
	m.alike(2, 0, functions, "functions alike")
	if !slices.ContainsFunc(functions, func(n int) bool { return m.l[n].Text == "main" && len(m.l[n].Kids) == 1 }) {
		m.wrongWhole(3, api.ErrMain, "main")
	}
}

// variables are the nodes of a function's parameters, then of its lets.
func (m *model) variables(function int) []int {
	kids := m.l[function].Kids
	l := slices.Clone(kids[:len(kids)-1])
	for _, n := range m.all(api.NodeLet) {
		if m.about(n) == function {
			l = append(l, n)
		}
	}
	return l
}

// about is the function that a node stands in.
func (m *model) about(n int) int {
	for m.l[n].Kind != api.NodeFn {
		n = m.up[n]
	}
	return n
}

func (m *model) functions() {
	for _, n := range m.all(api.NodeFn) {
		if len(m.variables(n)) > api.MaxVars {
			m.wrong(4, n, 0, api.ErrLong, "how many variables")
		}
		m.alike(4, 0, m.l[n].Kids[:len(m.l[n].Kids)-1], "parameters alike")
	}
}

// inScope tells whether a variable of node n's Text is in scope at it: a parameter, or a let ahead in a block about it.
func (m *model) inScope(n int) bool {
	calls := func(other int) bool { return m.l[other].Text == m.l[n].Text }
	kids := m.l[m.about(n)].Kids
	if slices.ContainsFunc(kids[:len(kids)-1], calls) {
		return true
	}
	for inner, outer := n, m.up[n]; outer >= 0; inner, outer = outer, m.up[outer] {
		if m.l[outer].Kind != api.NodeBlock {
			continue
		}
		for _, k := range m.l[outer].Kids[:slices.Index(m.l[outer].Kids, inner)] {
			if m.l[k].Kind == api.NodeLet && calls(k) {
				return true
			}
		}
	}
	return false
}

func (m *model) names() {
	for _, n := range m.all(api.NodeLet) {
		if m.inScope(n) {
			m.wrong(4, n, 0, api.ErrScope, "let")
		}
	}
	for _, n := range m.all(api.NodeName) {
		about := m.l[m.up[n]].Kind
		if about != api.NodeRec && about != api.NodeFn && !m.inScope(n) {
			rule := "name"
			if about == api.NodeMerge {
				rule = "green name"
			}
			m.wrong(4, n, 0, api.ErrScope, rule)
		}
	}
}

// declared is the first node of those whose Text is that of node n, or -1.
func (m *model) declared(n int, row []int) int {
	for _, other := range row {
		if m.l[other].Text == m.l[n].Text {
			return other
		}
	}
	return -1
}

func (m *model) calls() {
	for _, n := range m.all(api.NodeCall) {
		f := m.declared(n, m.all(api.NodeFn))
		if f < 0 {
			m.wrong(4, n, 0, api.ErrScope, "call")
		} else if len(m.l[f].Kids) != len(m.l[n].Kids)+1 {
			m.wrong(4, n, 1, api.ErrArity, "arguments")
		}
	}
	var fields []int
	for _, n := range m.all(api.NodeRec) {
		fields = append(fields, m.l[n].Kids...)
	}
	for _, n := range m.all(api.NodeField) {
		if m.declared(n, fields) < 0 {
			m.wrong(4, n, 0, api.ErrScope, "field")
		}
	}
	for _, n := range m.all(api.NodeNew) {
		if m.declared(n, m.all(api.NodeRec)) < 0 {
			m.wrong(4, n, 0, api.ErrScope, "new")
		}
	}
}

func (m *model) merges() {
	for _, n := range m.all(api.NodeMerge) {
		block := m.up[n]
		if m.l[m.up[block]].Kind != api.NodeWhile || m.l[block].Kids[0] != n {
			m.wrong(4, n, 0, api.ErrHint, "where a merge stands")
		}
		if len(m.l[n].Kids) > api.MaxGreens {
			m.wrong(4, n, 1, api.ErrHint, "how many green names")
		}
		m.alike(4, 1, m.l[n].Kids, "green names alike")
	}
}

// first is what is looked at first of what is wrong, or nothing, with no error.
func (m *model) first() found {
	if len(m.found) == 0 {
		return found{}
	}
	return slices.MinFunc(m.found, func(a, b found) int {
		return cmp.Or(cmp.Compare(a.round, b.round), cmp.Compare(a.place, b.place), cmp.Compare(a.what, b.what))
	})
}

func (m *model) texts(row []int) []string {
	var l []string
	for _, n := range row {
		l = append(l, m.l[n].Text)
	}
	return l
}

// desc is the description, if nothing is wrong.
func (m *model) desc() api.Desc {
	d := api.Desc{Merges: m.all(api.NodeMerge)}
	for _, n := range m.all(api.NodeRec) {
		d.Sorts = append(d.Sorts, api.Sort{Name: m.l[n].Text, Fields: m.texts(m.l[n].Kids)})
	}
	for _, n := range m.all(api.NodeFn) {
		d.Fns = append(d.Fns, api.Fn{Name: m.l[n].Text, Params: len(m.l[n].Kids) - 1, Vars: m.texts(m.variables(n)), Node: n})
	}
	d.Main = slices.IndexFunc(d.Fns, func(f api.Fn) bool { return f.Name == "main" })
	return d
}

// bare is the list without hints: each node that stays by how many ahead of it stay.
func (m *model) bare() []api.Node {
	stays := func(n int) bool {
		kind := m.l[n].Kind
		return kind != api.NodeMerge && kind != api.NodePromote && (m.up[n] < 0 || m.l[m.up[n]].Kind != api.NodeMerge)
	}
	number := func(n int) int {
		ahead := 0
		for other := range n {
			if stays(other) {
				ahead++
			}
		}
		return ahead
	}
	var all []api.Node
	for n, node := range m.l {
		if !stays(n) {
			continue
		}
		var kids []int
		for _, k := range node.Kids {
			for m.l[k].Kind == api.NodePromote {
				k = m.l[k].Kids[0]
			}
			if stays(k) {
				kids = append(kids, number(k))
			}
		}
		node.Kids = kids
		all = append(all, node)
	}
	return all
}
