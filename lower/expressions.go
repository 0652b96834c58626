package lower

import (
	"swath/api"
	"swath/lex"
)

// expression makes the code of what an expression is made of, and answers the instruction that makes its value, but for the
// register A into which that is laid.
type expression func(*maker, *api.Node) api.Ins

// expressions are how expressions are made, by their kinds.
func expressions() map[int]expression {
	return map[int]expression{
		api.NodeNum:     (*maker).number,
		api.NodeNull:    (*maker).null,
		api.NodeName:    (*maker).variable,
		api.NodeUnary:   (*maker).unary,
		api.NodeBin:     (*maker).binary,
		api.NodeField:   (*maker).field,
		api.NodeElem:    (*maker).element,
		api.NodeCall:    (*maker).call,
		api.NodeNew:     (*maker).record,
		api.NodeArr:     (*maker).array,
		api.NodeLen:     (*maker).length,
		api.NodeIn:      (*maker).next,
		api.NodeImg:     (*maker).imaged,
		api.NodeSize:    (*maker).size,
		api.NodePromote: (*maker).promoted,
		api.NodeRoot:    (*maker).root,
	}
}

// value is the instruction that makes an expression's value. It reads ahead of writing, so the registers that it reads are free for its A.
func (m *maker) value(n int) api.Ins {
	free := m.free
	node := &m.nodes[n]
	i := m.expressions[node.Kind](m, node)
	m.free = free
	return i
}

// operand is the register in which an expression's value lies behind its code.
func (m *maker) operand(n int) int {
	if node := &m.nodes[n]; node.Kind == api.NodeName {
		// No expression lays variables down: up to where the value is asked for it stays where it is.
		return m.variables[node.Text]
	}
	return m.laid(m.value(n))
}

func (m *maker) operands(numbers []int) []int {
	var l []int
	for _, n := range numbers {
		l = append(l, m.operand(n))
	}
	return l
}

// ofOne is an instruction that makes a value of a node's one kid.
func (m *maker) ofOne(i api.Ins, node *api.Node) api.Ins {
	i.B = m.operand(node.Kids[0])
	return i
}

// ofTwo is an instruction that makes a value of a node's two kids.
func (m *maker) ofTwo(i api.Ins, node *api.Node) api.Ins {
	i.B = m.operand(node.Kids[0])
	i.C = m.operand(node.Kids[1])
	return i
}

func (m *maker) number(node *api.Node) api.Ins {
	n, _ := lex.Number(node.Text)
	return api.Ins{Op: api.InsNum, K: n}
}

func (m *maker) null(*api.Node) api.Ins {
	return api.Ins{Op: api.InsNull}
}

func (m *maker) next(*api.Node) api.Ins {
	return api.Ins{Op: api.InsIn}
}

func (m *maker) size(*api.Node) api.Ins {
	return api.Ins{Op: api.InsSize}
}

func (m *maker) root(*api.Node) api.Ins {
	return api.Ins{Op: api.InsRoot}
}

func (m *maker) record(node *api.Node) api.Ins {
	return m.records[node.Text]
}

func (m *maker) variable(node *api.Node) api.Ins {
	return api.Ins{Op: api.InsMove, B: m.variables[node.Text]}
}

func (m *maker) promoted(node *api.Node) api.Ins {
	return m.ofOne(api.Ins{Op: api.InsPromote}, node)
}

func (m *maker) array(node *api.Node) api.Ins {
	return m.ofOne(api.Ins{Op: api.InsArr}, node)
}

func (m *maker) length(node *api.Node) api.Ins {
	return m.ofOne(api.Ins{Op: api.InsLen}, node)
}

func (m *maker) imaged(node *api.Node) api.Ins {
	return m.ofOne(api.Ins{Op: api.InsImg}, node)
}

func (m *maker) unary(node *api.Node) api.Ins {
	return m.ofOne(m.unaries[node.Text], node)
}

func (m *maker) field(node *api.Node) api.Ins {
	return m.ofOne(m.fields[node.Text], node)
}

func (m *maker) binary(node *api.Node) api.Ins {
	return m.ofTwo(m.binaries[node.Text], node)
}

func (m *maker) element(node *api.Node) api.Ins {
	return m.ofTwo(api.Ins{Op: api.InsElem}, node)
}

func (m *maker) call(node *api.Node) api.Ins {
	i := m.calls[node.Text]
	i.L = m.operands(node.Kids)
	return i
}
