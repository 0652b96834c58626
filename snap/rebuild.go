package snap

import (
	"slices"

	"swath/api"
	"swath/heap"
)

// builder makes frames out of a chain.
type builder struct {
	trace api.Trace
	vars  []api.Value
	// order has the Virts that are reached, as they are first met.
	order []int
	// things has, for each of these, the thing that is laid for it: the number 0 till then.
	things map[int]api.Value
}

// look finds the Virts that a chain reaches, and throws if it takes what there isn't. Nothing is laid by it, so that a fault leaves the
// heap as it was.
func (b *builder) look(chain []int) {
	for _, n := range chain {
		b.meet(b.trace.Links[n].Regs)
	}
}

// meet goes through sources and through the cells of the Virts that are new, depth first. What waits stands on a list, the next one
// last: calls within one another would pile up on Virts deep within one another.
func (b *builder) meet(l []api.Src) {
	waiting := backwards(nil, l)
	for len(waiting) > 0 {
		last := len(waiting) - 1
		s := waiting[last]
		waiting = waiting[:last]
		b.mayTake(s)
		if s.Kind == api.SrcVirt && b.isNew(s.N) {
			b.order = append(b.order, s.N)
			b.things[s.N] = api.Value{}
			waiting = backwards(waiting, b.trace.Virts[s.N].Cells)
		}
	}
}

// backwards is a list with another one's sources behind it, the last one first.
func backwards(to, l []api.Src) []api.Src {
	for _, s := range slices.Backward(l) {
		to = append(to, s)
	}
	return to
}

// mayTake throws, unless a source is a constant, or a variable or a Virt that there is.
func (b *builder) mayTake(s api.Src) {
	switch s.Kind {
	case api.SrcConst:
	case api.SrcVar:
		want(within(s.N, len(b.vars)))
	case api.SrcVirt:
		want(within(s.N, len(b.trace.Virts)))
	default:
		want(false)
	}
}

func (b *builder) isNew(virt int) bool {
	_, met := b.things[virt]
	return !met
}

// lay lays a thing for each Virt. Cells can take things that are laid later: so these cells are filled in when all are there.
func (b *builder) lay(h *heap.Heap) {
	for _, n := range b.order {
		v := b.trace.Virts[n]
		b.things[n] = h.Lay(v.Rec, b.values(v.Cells))
	}
	for _, n := range b.order {
		v := b.trace.Virts[n]
		for at, s := range v.Cells {
			if s.Kind == api.SrcVirt {
				fill(h, b.things[n], v.Rec, at, b.things[s.N])
			}
		}
	}
}

// fill lays x into a cell of a thing: of an array, if its sort is none.
func fill(h *heap.Heap, thing api.Value, rec, at int, x api.Value) {
	if rec < 0 {
		h.SetElem(thing, api.Value{N: int64(at)}, x)
		return
	}
	h.SetField(thing, rec, at, x)
}

// frames are those of a chain whose Virts are laid.
func (b *builder) frames(chain []int) []api.Frame {
	var frames []api.Frame
	for _, n := range chain {
		l := b.trace.Links[n]
		frames = append(frames, api.Frame{Fn: l.Fn, Pc: l.Pc, Regs: b.values(l.Regs), Into: l.Into})
	}
	return frames
}

func (b *builder) values(l []api.Src) []api.Value {
	values := make([]api.Value, len(l))
	for n, s := range l {
		values[n] = b.value(s)
	}
	return values
}

func (b *builder) value(s api.Src) api.Value {
	switch s.Kind {
	case api.SrcVar:
		return b.vars[s.N]
	case api.SrcVirt:
		return b.things[s.N]
	}
	return s.Val
}
