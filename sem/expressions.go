package sem

import (
	"swath/api"
	"swath/arith"
	"swath/lex"
)

// way does an expression and answers its value.
type way func(*run, *api.Node, variables) api.Value

// ways are how expressions are done, by their kinds.
func ways() map[int]way {
	return map[int]way{
		api.NodeNum:     (*run).digits,
		api.NodeNull:    (*run).null,
		api.NodeName:    (*run).variable,
		api.NodeUnary:   (*run).unary,
		api.NodeBin:     (*run).binary,
		api.NodeField:   (*run).field,
		api.NodeElem:    (*run).element,
		api.NodeCall:    (*run).called,
		api.NodeNew:     (*run).made,
		api.NodeArr:     (*run).array,
		api.NodeLen:     (*run).length,
		api.NodeIn:      (*run).next,
		api.NodeImg:     (*run).imaged,
		api.NodeSize:    (*run).size,
		api.NodePromote: (*run).promoted,
		api.NodeRoot:    (*run).root,
	}
}

func (r *run) kidNode(node *api.Node, at int) *api.Node {
	return &r.nodes[node.Kids[at]]
}

// kid is the value of the expression that is that kid of a node.
func (r *run) kid(node *api.Node, at int, vars variables) api.Value {
	k := r.kidNode(node, at)
	return r.ways[k.Kind](r, k, vars)
}

// number is the number that a value is; the run ends if it is none.
func (r *run) number(v api.Value) int64 {
	if v.Kind != api.Int {
		r.trapped(api.TrapType)
	}
	return v.N
}

// kept is a value, unless there is a trap beside it.
func (r *run) kept(v api.Value, trap int) api.Value {
	r.trapped(trap)
	return v
}

func (r *run) digits(node *api.Node, _ variables) api.Value {
	n, _ := lex.Number(node.Text)
	return api.Value{N: n}
}

func (r *run) null(*api.Node, variables) api.Value {
	return api.Value{Kind: api.Null}
}

func (r *run) root(*api.Node, variables) api.Value {
	return r.heap.Root()
}

func (r *run) size(*api.Node, variables) api.Value {
	return api.Value{N: int64(len(r.image))}
}

func (r *run) variable(node *api.Node, vars variables) api.Value {
	return vars[node.Text]
}

func (r *run) promoted(node *api.Node, vars variables) api.Value {
	return r.kid(node, 0, vars)
}

func (r *run) unary(node *api.Node, vars variables) api.Value {
	return r.calculated(r.unaries[node.Text], r.number(r.kid(node, 0, vars)), 0)
}

func (r *run) binary(node *api.Node, vars variables) api.Value {
	left := r.kid(node, 0, vars)
	right := r.kid(node, 1, vars)
	switch node.Text {
	case "==":
		return truth(left == right)
	case "!=":
		return truth(left != right)
	}
	return r.calculated(r.binaries[node.Text], r.number(left), r.number(right))
}

func (r *run) calculated(op int, a, b int64) api.Value {
	n, trap := arith.Do(op, a, b)
	return r.kept(api.Value{N: n}, trap)
}

func truth(yes bool) api.Value {
	if yes {
		return api.Value{N: 1}
	}
	return api.Value{}
}

func (r *run) called(node *api.Node, vars variables) api.Value {
	arguments := make([]api.Value, len(node.Kids))
	for i := range arguments {
		arguments[i] = r.kid(node, i, vars)
	}
	return r.call(r.functions[node.Text], arguments)
}

func (r *run) made(node *api.Node, _ variables) api.Value {
	what := r.records[node.Text]
	return r.kept(r.heap.Rec(what.sort, what.fields))
}

func (r *run) array(node *api.Node, vars variables) api.Value {
	return r.kept(r.heap.Arr(r.kid(node, 0, vars)))
}

func (r *run) field(node *api.Node, vars variables) api.Value {
	c := r.fields[node.Text]
	return r.kept(r.heap.Field(r.kid(node, 0, vars), c.sort, c.at))
}

func (r *run) element(node *api.Node, vars variables) api.Value {
	of := r.kid(node, 0, vars)
	return r.kept(r.heap.Elem(of, r.kid(node, 1, vars)))
}

func (r *run) length(node *api.Node, vars variables) api.Value {
	return r.kept(r.heap.Len(r.kid(node, 0, vars)))
}

// next is the next number of the input, or null behind the last one.
func (r *run) next(*api.Node, variables) api.Value {
	if r.read == len(r.input) {
		return api.Value{Kind: api.Null}
	}
	r.read++
	return api.Value{N: r.input[r.read-1]}
}

func (r *run) imaged(node *api.Node, vars variables) api.Value {
	at := r.number(r.kid(node, 0, vars))
	if at < 0 || at >= int64(len(r.image)) {
		r.trapped(api.TrapIndex)
	}
	return api.Value{N: r.image[at]}
}
