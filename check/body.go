package check

import "swath/api"

// block judges statements, which have a scope of their own.
func (j *judge) block(statements []int, about *scope) {
	s := within(about)
	for _, k := range statements {
		j.statement(k, s)
	}
}

// loop judges the statements of a while's block: here a merge may be the first one.
func (j *judge) loop(statements []int, about *scope) {
	if len(statements) > 0 && j.nodes[statements[0]].Kind == api.NodeMerge {
		j.merge(statements[0], about)
		statements = statements[1:]
	}
	j.block(statements, about)
}

func (j *judge) statement(n int, s *scope) {
	node := j.nodes[n]
	switch node.Kind {
	case api.NodeLet:
		j.let(n, s)
	case api.NodeIf:
		j.expression(node.Kids[0], s)
		// Where there is no else stands a NodeNone, which has no kids.
		j.block(j.nodes[node.Kids[1]].Kids, s)
		j.block(j.nodes[node.Kids[2]].Kids, s)
	case api.NodeWhile:
		j.expression(node.Kids[0], s)
		j.loop(j.nodes[node.Kids[1]].Kids, s)
	case api.NodeMerge:
		// One that may stand where it does is taken by loop.
		j.refuse(n, api.ErrHint)
	default:
		j.expressions(node.Kids, s)
	}
}

func (j *judge) let(n int, s *scope) {
	node := j.nodes[n]
	if s.has(node.Text) {
		j.refuse(n, api.ErrScope)
	}
	j.expressions(node.Kids, s)
	s.names[node.Text] = n
}

func (j *judge) merge(n int, s *scope) {
	greens := j.nodes[n].Kids
	if len(greens) > api.MaxGreens {
		j.refuse(n, api.ErrHint)
	}
	named := map[string]int{}
	for _, k := range greens {
		j.expression(k, s)
		j.declare(k, named)
	}
}

func (j *judge) expressions(numbers []int, s *scope) {
	for _, n := range numbers {
		j.expression(n, s)
	}
}

// expression judges an expression or a place ahead of what stands within it.
func (j *judge) expression(n int, s *scope) {
	node := j.nodes[n]
	switch node.Kind {
	case api.NodeName:
		if !s.has(node.Text) {
			j.refuse(n, api.ErrScope)
		}
	case api.NodeField:
		j.find(n, j.fields)
	case api.NodeNew:
		j.find(n, j.records)
	case api.NodeCall:
		called := j.nodes[j.find(n, j.functions)]
		if len(node.Kids) != len(parameters(called)) {
			j.refuse(n, api.ErrArity)
		}
	}
	j.expressions(node.Kids, s)
}
