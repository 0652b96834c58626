package sem

import "swath/api"

// statement does a statement, and answers what block does.
func (r *run) statement(node *api.Node, vars variables) (api.Value, bool) {
	switch node.Kind {
	case api.NodeMerge:
		return api.Value{}, false
	case api.NodeWhile:
		return r.while(node, vars)
	}
	r.step()
	switch node.Kind {
	case api.NodeIf:
		return r.choice(node, vars)
	case api.NodeReturn:
		return r.kid(node, 0, vars), true
	case api.NodeLet:
		vars[node.Text] = r.kid(node, 0, vars)
	case api.NodeSet:
		r.set(node, vars)
	case api.NodeOut:
		// Ahead of append: what is put out by calls within the expression stands first.
		n := r.number(r.kid(node, 0, vars))
		r.out = append(r.out, n)
	case api.NodeStop:
		panic(ending{end: api.EndHalt, value: r.kid(node, 0, vars)})
	case api.NodeDo:
		r.kid(node, 0, vars)
	}
	return api.Value{}, false
}

func (r *run) while(node *api.Node, vars variables) (api.Value, bool) {
	for {
		r.step()
		if r.number(r.kid(node, 0, vars)) == 0 {
			return api.Value{}, false
		}
		if value, returned := r.block(r.kidNode(node, 1), vars); returned {
			return value, true
		}
	}
}

func (r *run) choice(node *api.Node, vars variables) (api.Value, bool) {
	taken := 1
	if r.number(r.kid(node, 0, vars)) == 0 {
		// Where there is no else stands a NodeNone, which has no statements.
		taken = 2
	}
	return r.block(r.kidNode(node, taken), vars)
}

// set lays a value down; what the place is made of comes ahead of the value, whether there is such a place behind it.
func (r *run) set(node *api.Node, vars variables) {
	place := r.kidNode(node, 0)
	switch place.Kind {
	case api.NodeName:
		vars[place.Text] = r.kid(node, 1, vars)
	case api.NodeRoot:
		r.heap.SetRoot(r.kid(node, 1, vars))
	case api.NodeField:
		of := r.kid(place, 0, vars)
		c := r.fields[place.Text]
		r.trapped(r.heap.SetField(of, c.sort, c.at, r.kid(node, 1, vars)))
	case api.NodeElem:
		of := r.kid(place, 0, vars)
		at := r.kid(place, 1, vars)
		r.trapped(r.heap.SetElem(of, at, r.kid(node, 1, vars)))
	}
}
