package check

import (
	"math/rand"
	"slices"

	"swath/api"
)

// signature is a function's name and how many parameters it has.
type signature struct {
	name   string
	params int
}

// maker makes descriptions by chance with which nothing is wrong.
type maker struct {
	*rand.Rand
	records   []string
	fields    []string
	functions []signature
	scope     []string
}

func (m *maker) pick(l []string) string { return l[m.Intn(len(l))] }

// fresh is the name of a variable that isn't in scope, or none.
func (m *maker) fresh() string {
	v := m.pick([]string{"a", "b", "c", "d", "e", "f", "x", "y", "P", "main"})
	if slices.Contains(m.scope, v) {
		return ""
	}
	return v
}

func (m *maker) program() *part {
	var kids []*part
	for _, r := range []string{"P", "Q", "f"}[:m.Intn(4)] {
		m.records = append(m.records, r)
		var fields []*part
		for range m.Intn(4) {
			field := string(rune('p' + len(m.fields)))
			m.fields = append(m.fields, field)
			fields = append(fields, name(field))
		}
		kids = append(kids, of(api.NodeRec, r, fields...))
	}
	m.functions = []signature{{"main", 0}}
	for _, f := range []string{"f", "g", "a"}[:m.Intn(4)] {
		m.functions = append(m.functions, signature{f, m.Intn(4)})
	}
	for _, f := range m.functions {
		kids = append(kids, m.function(f))
	}
	m.Shuffle(len(kids), func(i, j int) { kids[i], kids[j] = kids[j], kids[i] })
	return of(api.NodeProgram, "", kids...)
}

func (m *maker) function(f signature) *part {
	m.scope = nil
	var kids []*part
	for len(kids) < f.params {
		if v := m.fresh(); v != "" {
			m.scope = append(m.scope, v)
			kids = append(kids, name(v))
		}
	}
	return of(api.NodeFn, f.name, append(kids, m.block(3, false))...)
}

func (m *maker) block(deep int, looped bool) *part {
	about := len(m.scope)
	b := block()
	if looped && m.Intn(3) > 0 {
		b.kids = append(b.kids, m.merge())
	}
	if deep > 0 {
		for range m.Intn(5) {
			b.kids = append(b.kids, m.statement(deep))
		}
	}
	m.scope = m.scope[:about]
	return b
}

func (m *maker) merge() *part {
	p := of(api.NodeMerge, "")
	for _, i := range m.Perm(len(m.scope)) {
		if len(p.kids) < api.MaxGreens && m.Intn(2) == 0 {
			p.kids = append(p.kids, name(m.scope[i]))
		}
	}
	return p
}

func (m *maker) statement(deep int) *part {
	switch m.Intn(9) {
	case 0, 1, 2:
		if v := m.fresh(); v != "" {
			p := of(api.NodeLet, v, m.expression(2))
			m.scope = append(m.scope, v)
			return p
		}
	case 3:
		return of(api.NodeSet, "", m.place(2), m.expression(2))
	case 4:
		otherwise := none()
		p := of(api.NodeIf, "", m.expression(2), m.block(deep-1, false))
		if m.Intn(2) == 0 {
			otherwise = m.block(deep-1, false)
		}
		p.kids = append(p.kids, otherwise)
		return p
	case 5, 6:
		return of(api.NodeWhile, "", m.expression(2), m.block(deep-1, true))
	case 7:
		return of(api.NodeDo, "", m.call(2))
	}
	return of([]int{api.NodeReturn, api.NodeOut, api.NodeStop}[m.Intn(3)], "", m.expression(3))
}

func (m *maker) call(deep int) *part {
	f := m.functions[m.Intn(len(m.functions))]
	p := of(api.NodeCall, f.name)
	for range f.params {
		p.kids = append(p.kids, m.expression(deep-1))
	}
	return p
}

func (m *maker) place(deep int) *part {
	switch k := m.Intn(4); {
	case k == 0 && len(m.scope) > 0:
		return name(m.pick(m.scope))
	case k == 1 && len(m.fields) > 0:
		return of(api.NodeField, m.pick(m.fields), m.expression(deep-1))
	case k == 2:
		return of(api.NodeElem, "", m.expression(deep-1), m.expression(deep-1))
	}
	return of(api.NodeRoot, "")
}

func (m *maker) expression(deep int) *part {
	k := m.Intn(12)
	if deep <= 0 {
		k = m.Intn(6)
	}
	switch {
	case k < 3 && len(m.scope) > 0:
		return name(m.pick(m.scope))
	case k == 4 && len(m.records) > 0:
		return of(api.NodeNew, m.pick(m.records))
	case k == 5:
		return of([]int{api.NodeNull, api.NodeIn, api.NodeSize, api.NodeRoot}[m.Intn(4)], "")
	case k == 6:
		return of(api.NodeUnary, m.pick([]string{"-", "!", "~"}), m.expression(deep-1))
	case k == 7:
		return of(api.NodeBin, m.pick([]string{"+", "==", "<<"}), m.expression(deep-1), m.expression(deep-1))
	case k == 8:
		return m.call(deep)
	case k == 9:
		return m.place(deep)
	case k == 10:
		return of([]int{api.NodeArr, api.NodeLen, api.NodeImg}[m.Intn(3)], "", m.expression(deep-1))
	case k == 11:
		return promote(m.expression(deep - 1))
	}
	return num("7")
}

// parts are a part and all within it that are of one of those kinds, or of any, if none is named.
func parts(p *part, kinds ...int) []*part {
	var l []*part
	if len(kinds) == 0 || slices.Contains(kinds, p.kind) {
		l = append(l, p)
	}
	for _, k := range p.kids {
		l = append(l, parts(k, kinds...)...)
	}
	return l
}

// spoil changes one thing of a description, so that it is still a tree.
func spoil(chance *rand.Rand, p *part) {
	any := func(kinds ...int) *part {
		l := parts(p, kinds...)
		if len(l) == 0 {
			// Something to change that nobody sees.
			return block()
		}
		return l[chance.Intn(len(l))]
	}
	names := []string{"a", "b", "c", "d", "f", "g", "h", "p", "q", "x", "P", "Q", "R", "main"}
	called := func() string { return names[chance.Intn(len(names))] }
	insert := func(p *part, at int, k *part) { p.kids = slices.Insert(p.kids, at, k) }
	switch chance.Intn(12) {
	case 0, 1, 2:
		any(api.NodeRec, api.NodeFn, api.NodeLet, api.NodeName, api.NodeField, api.NodeCall, api.NodeNew).text = called()
	case 3:
		kind := []int{api.NodeRec, api.NodeFn, api.NodeLet, api.NodeField, api.NodeCall, api.NodeNew}[chance.Intn(6)]
		any(kind).text = called()
	case 4:
		b := any(api.NodeBlock)
		insert(b, chance.Intn(len(b.kids)+1), of(api.NodeMerge, "", name(called())))
	case 5:
		call := any(api.NodeCall)
		if len(call.kids) > 0 && chance.Intn(2) == 0 {
			call.kids = call.kids[1:]
		} else if call.kind == api.NodeCall {
			insert(call, chance.Intn(len(call.kids)+1), num("1"))
		}
	case 6:
		d := p.kids[chance.Intn(len(p.kids))]
		insert(p, chance.Intn(len(p.kids)+1), d)
	case 7:
		b := any(api.NodeBlock)
		chance.Shuffle(len(b.kids), func(i, j int) { b.kids[i], b.kids[j] = b.kids[j], b.kids[i] })
	case 8:
		if len(p.kids) > 1 {
			at := chance.Intn(len(p.kids))
			p.kids = slices.Delete(p.kids, at, at+1)
		}
	case 9:
		m := any(api.NodeMerge)
		for range 1 + chance.Intn(api.MaxGreens) {
			if green := any(api.NodeName); m.kind == api.NodeMerge && green.kind == api.NodeName {
				insert(m, chance.Intn(len(m.kids)+1), name(green.text))
			}
		}
	case 10:
		insert(any(api.NodeFn, api.NodeRec), 0, name(called()))
	default:
		spoilMuch(chance, p)
	}
}

// spoilMuch brings one of the numbers near the most that there may be.
func spoilMuch(chance *rand.Rand, p *part) {
	much := func(most int) int { return most - 2 + chance.Intn(4) }
	add := func(p *part, kind, n int, text string, kids ...*part) {
		for i := range n {
			p.kids = slices.Insert(p.kids, 0, of(kind, numbered(text, i, 1, ""), kids...))
		}
	}
	switch chance.Intn(5) {
	case 0:
		add(p, api.NodeRec, much(api.MaxRecs), "R#")
	case 1:
		add(p, api.NodeFn, much(api.MaxFns), "F#", block())
	case 2:
		if l := parts(p, api.NodeRec); len(l) > 0 {
			add(l[0], api.NodeName, much(api.MaxFields), "A#")
		}
	case 3:
		if l := parts(p, api.NodeFn); len(l) > 0 {
			add(l[len(l)-1], api.NodeName, much(api.MaxVars), "p#")
		}
	default:
		if l := parts(p, api.NodeBlock); len(l) > 0 {
			add(l[len(l)-1], api.NodeLet, much(api.MaxVars), "v#", num("1"))
		}
	}
}
