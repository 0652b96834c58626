package sem

import (
	"swath/api"
	"swath/arith"
)

// words are what the texts of a description's nodes stand for.
type words struct {
	functions map[string]api.Fn
	records   map[string]record
	fields    map[string]cell
	binaries  map[string]int
	unaries   map[string]int
}

// record is a record's sort, and how many fields it has.
type record struct {
	sort   int
	fields int
}

// cell is where a field lies: in records of that sort, at that place.
type cell struct {
	sort int
	at   int
}

func wordsOf(d api.Desc) words {
	w := words{
		functions: map[string]api.Fn{},
		records:   map[string]record{},
		fields:    map[string]cell{},
		binaries:  map[string]int{},
		unaries:   map[string]int{},
	}
	for _, f := range d.Fns {
		w.functions[f.Name] = f
	}
	for sort, s := range d.Sorts {
		w.records[s.Name] = record{sort, len(s.Fields)}
		for at, name := range s.Fields {
			w.fields[name] = cell{sort, at}
		}
	}
	for op := api.OpAdd; op <= api.OpFlip; op++ {
		if arith.Unary(op) {
			w.unaries[arith.Name(op)] = op
		} else {
			w.binaries[arith.Name(op)] = op
		}
	}
	return w
}
