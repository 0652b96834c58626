package check

import "swath/api"

// fault is what is thrown where a rule is broken.
type fault struct {
	at int
	e  api.Errno
}

// judged is the place of the first thing that is wrong with a tree, and the error; d is what the tree declares.
func judged(l []api.Node, d api.Desc) (at int, e api.Errno) {
	defer func() {
		switch thrown := recover().(type) {
		case nil:
		case fault:
			at, e = thrown.at, thrown.e
		default:
			panic(thrown)
		}
	}()
	j := judge{nodes: l, records: map[string]int{}, fields: map[string]int{}, functions: map[string]int{}}
	j.program(d)
	return 0, api.OK
}

// judge holds a tree's nodes against the rules; names lead to the nodes that declare them.
type judge struct {
	nodes     []api.Node
	records   map[string]int
	fields    map[string]int
	functions map[string]int
}

// refuse throws an error with the place of a node.
func (j *judge) refuse(n int, e api.Errno) {
	panic(fault{j.nodes[n].At, e})
}

// refuseWhole throws an error that is no single node's.
func (j *judge) refuseWhole(e api.Errno) {
	panic(fault{0, e})
}

func (j *judge) program(d api.Desc) {
	if len(d.Sorts) > api.MaxRecs || len(d.Fns) > api.MaxFns {
		j.refuseWhole(api.ErrLong)
	}
	for _, k := range j.nodes[len(j.nodes)-1].Kids {
		if j.nodes[k].Kind == api.NodeRec {
			j.record(k)
		}
	}
	for _, f := range d.Fns {
		j.declare(f.Node, j.functions)
	}
	main, is := j.functions[mainName]
	if !is || len(parameters(j.nodes[main])) > 0 {
		j.refuseWhole(api.ErrMain)
	}
	for _, f := range d.Fns {
		j.function(f)
	}
}

// declare lays a node down among names, none of which may be its own.
func (j *judge) declare(n int, names map[string]int) {
	name := j.nodes[n].Text
	if _, is := names[name]; is {
		j.refuse(n, api.ErrScope)
	}
	names[name] = n
}

// find is the node that declares the name of node n among names.
func (j *judge) find(n int, names map[string]int) int {
	declared, is := names[j.nodes[n].Text]
	if !is {
		j.refuse(n, api.ErrScope)
	}
	return declared
}

func (j *judge) record(n int) {
	j.declare(n, j.records)
	fields := j.nodes[n].Kids
	if len(fields) > api.MaxFields {
		j.refuse(n, api.ErrLong)
	}
	for _, k := range fields {
		j.declare(k, j.fields)
	}
}

func (j *judge) function(f api.Fn) {
	if len(f.Vars) > api.MaxVars {
		j.refuse(f.Node, api.ErrLong)
	}
	node := j.nodes[f.Node]
	s := within(nil)
	for _, k := range parameters(node) {
		j.declare(k, s.names)
	}
	j.block(j.nodes[node.Kids[f.Params]].Kids, s)
}
