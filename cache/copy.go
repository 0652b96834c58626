package cache

import (
	"slices"

	"swath/api"
)

// copied is the same trace in memory of its own.
func copied(t api.Trace) api.Trace {
	t.Ins = slices.Clone(t.Ins)
	t.Ops = slices.Clone(t.Ops)
	for n := range t.Ops {
		t.Ops[n].Args = slices.Clone(t.Ops[n].Args)
	}
	t.Links = slices.Clone(t.Links)
	for n := range t.Links {
		t.Links[n].Regs = slices.Clone(t.Links[n].Regs)
	}
	t.Virts = slices.Clone(t.Virts)
	for n := range t.Virts {
		t.Virts[n].Cells = slices.Clone(t.Virts[n].Cells)
	}
	t.Back = slices.Clone(t.Back)
	return t
}
