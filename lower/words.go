package lower

import (
	"swath/api"
	"swath/arith"
)

// words are what the texts of a description's nodes are made into: instructions with as much in them as hangs on the text alone.
type words struct {
	calls    map[string]api.Ins
	records  map[string]api.Ins
	fields   map[string]api.Ins
	unaries  map[string]api.Ins
	binaries map[string]api.Ins
}

func wordsOf(d api.Desc) words {
	w := words{
		calls:    map[string]api.Ins{},
		records:  map[string]api.Ins{},
		fields:   map[string]api.Ins{},
		unaries:  map[string]api.Ins{},
		binaries: map[string]api.Ins{"==": {Op: api.InsEq}, "!=": {Op: api.InsNe}},
	}
	for n, f := range d.Fns {
		w.calls[f.Name] = api.Ins{Op: api.InsCall, K: int64(n)}
	}
	for sort, s := range d.Sorts {
		w.records[s.Name] = api.Ins{Op: api.InsNew, C: len(s.Fields), K: int64(sort)}
		for cell, name := range s.Fields {
			w.fields[name] = api.Ins{Op: api.InsGet, C: cell, K: int64(sort)}
		}
	}
	for op := api.OpAdd; op <= api.OpFlip; op++ {
		if arith.Unary(op) {
			w.unaries[arith.Name(op)] = api.Ins{Op: api.InsUn, K: int64(op)}
		} else {
			w.binaries[arith.Name(op)] = api.Ins{Op: api.InsBin, K: int64(op)}
		}
	}
	return w
}
