package sem

import (
	"swath/api"
	"swath/heap"
)

// run is a run of a description, with what it has taken and put out so far.
type run struct {
	words
	nodes    []api.Node
	ways     map[int]way
	image    []int64
	input    []int64
	fuel     int
	maxDepth int
	heap     *heap.Heap
	depth    int
	steps    int
	read     int
	out      []int64
}

// variables are those of one call, by their names: no two that are in scope have one name.
type variables map[string]api.Value

// ending is what is thrown where a run ends.
type ending struct {
	end   int
	value api.Value
	trap  int
}

// ended is how the run ends that is a call of main.
func (r *run) ended(main api.Fn) (how ending) {
	defer func() {
		switch thrown := recover().(type) {
		case nil:
		case ending:
			how = thrown
		default:
			panic(thrown)
		}
	}()
	return ending{end: api.EndHalt, value: r.call(main, nil)}
}

// trapped ends the run if there is a trap.
func (r *run) trapped(trap int) {
	if trap != 0 {
		panic(ending{end: api.EndTrap, trap: trap})
	}
}

// step takes a step, or ends the run if none is left.
func (r *run) step() {
	if r.steps == r.fuel {
		panic(ending{end: api.EndFuel})
	}
	r.steps++
}

// call is the value of a function with these arguments.
func (r *run) call(f api.Fn, arguments []api.Value) api.Value {
	if r.depth == r.maxDepth {
		r.trapped(api.TrapDepth)
	}
	vars := make(variables, len(f.Vars))
	for i, v := range arguments {
		vars[f.Vars[i]] = v
	}
	r.depth++
	// Behind the parameters stands the body.
	value, _ := r.block(&r.nodes[r.nodes[f.Node].Kids[f.Params]], vars)
	r.depth--
	return value
}

// block does statements up to a return, and answers its value and true, or the number 0 and false.
func (r *run) block(block *api.Node, vars variables) (api.Value, bool) {
	for _, k := range block.Kids {
		if value, returned := r.statement(&r.nodes[k], vars); returned {
			return value, true
		}
	}
	return api.Value{}, false
}
