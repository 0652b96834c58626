package lower

import "swath/api"

// statement makes the code of a statement, but for the step that is taken when it is begun.
type statement func(*maker, *api.Node)

// statements are how statements are made, by their kinds.
func statements() map[int]statement {
	return map[int]statement{
		api.NodeLet:    (*maker).let,
		api.NodeSet:    (*maker).set,
		api.NodeIf:     (*maker).choice,
		api.NodeWhile:  (*maker).while,
		api.NodeReturn: (*maker).returned,
		api.NodeOut:    (*maker).out,
		api.NodeStop:   (*maker).stop,
		api.NodeDo:     (*maker).do,
		api.NodeMerge:  (*maker).merge,
	}
}

// block makes statements; the registers of variables that they declare are free behind them. A NodeNone has none.
func (m *maker) block(n int) {
	free := m.free
	for _, k := range m.nodes[n].Kids {
		m.begin(&m.nodes[k])
	}
	m.free = free
}

func (m *maker) begin(node *api.Node) {
	if node.Kind != api.NodeMerge {
		m.emit(api.Ins{Op: api.InsStep})
	}
	free := m.free
	m.statements[node.Kind](m, node)
	// What a let has taken is its variable's up to the end of the block.
	if node.Kind != api.NodeLet {
		m.free = free
	}
}

func (m *maker) let(node *api.Node) {
	m.variables[node.Text] = m.laid(m.value(node.Kids[0]))
}

func (m *maker) choice(node *api.Node) {
	otherwise := m.unless(node.Kids[0])
	m.block(node.Kids[1])
	end := func() {}
	if m.open() && len(m.nodes[node.Kids[2]].Kids) > 0 {
		end = m.ahead(api.Ins{Op: api.InsJump})
	}
	otherwise()
	m.block(node.Kids[2])
	end()
}

func (m *maker) while(node *api.Node) {
	// The step that was emitted last is taken each time the condition is asked.
	again := len(m.code) - 1
	end := m.unless(node.Kids[0])
	m.block(node.Kids[1])
	if m.open() {
		m.emit(api.Ins{Op: api.InsJump, K: int64(again)})
	}
	end()
}

// unless asks a condition, and answers what leads to where the code goes on if it is 0.
func (m *maker) unless(condition int) func() {
	free := m.free
	asked := m.operand(condition)
	m.free = free
	return m.ahead(api.Ins{Op: api.InsZero, A: asked})
}

func (m *maker) returned(node *api.Node) {
	m.emit(api.Ins{Op: api.InsRet, A: m.operand(node.Kids[0])})
}

func (m *maker) out(node *api.Node) {
	m.emit(api.Ins{Op: api.InsOut, A: m.operand(node.Kids[0])})
}

func (m *maker) stop(node *api.Node) {
	m.emit(api.Ins{Op: api.InsStop, A: m.operand(node.Kids[0])})
}

// do makes a call whose value nobody asks for.
func (m *maker) do(node *api.Node) {
	m.operand(node.Kids[0])
}

// merge numbers merges as they are come to, which is in tree.Walk's order.
func (m *maker) merge(node *api.Node) {
	m.emit(api.Ins{Op: api.InsMerge, K: int64(m.merges), L: m.operands(node.Kids)})
	m.merges++
}

// place makes what lays the value of an expression down there: what the place is made of comes ahead of the value.
type place func(m *maker, node *api.Node, value int)

// places are how values are laid down, by the places' kinds.
func places() map[int]place {
	return map[int]place{
		api.NodeName:  (*maker).setVariable,
		api.NodeRoot:  (*maker).setRoot,
		api.NodeField: (*maker).setField,
		api.NodeElem:  (*maker).setElement,
	}
}

func (m *maker) set(node *api.Node) {
	where := &m.nodes[node.Kids[0]]
	m.places[where.Kind](m, where, node.Kids[1])
}

func (m *maker) setVariable(node *api.Node, value int) {
	i := m.value(value)
	i.A = m.variables[node.Text]
	m.emit(i)
}

func (m *maker) setRoot(_ *api.Node, value int) {
	m.emit(api.Ins{Op: api.InsSetRoot, A: m.operand(value)})
}

func (m *maker) setField(node *api.Node, value int) {
	i := m.fields[node.Text]
	i.Op = api.InsPut
	i.A = m.operand(node.Kids[0])
	i.B = m.operand(value)
	m.emit(i)
}

func (m *maker) setElement(node *api.Node, value int) {
	i := api.Ins{Op: api.InsSetElem}
	i.A = m.operand(node.Kids[0])
	i.B = m.operand(node.Kids[1])
	i.C = m.operand(value)
	m.emit(i)
}
