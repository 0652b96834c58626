package trace

import (
	"iter"

	"swath/api"
)

// walk goes through what links take: those above a link, too, and the Virts that are reached. It comes to each link and to each Virt
// once in all, also from several links: so long chains that are shared and rings of Virts are gone through just once.
type walk struct {
	trace api.Trace
	links []bool
	virts []bool
}

// walkOf is a walk that has come to nothing yet. The trace's links and Virts have to be right.
func walkOf(t api.Trace) *walk {
	return &walk{trace: t, links: make([]bool, len(t.Links)), virts: make([]bool, len(t.Virts))}
}

// from tells what a link takes, as far as the walk hasn't come to it: nothing of -1.
func (w *walk) from(link int) iter.Seq[api.Src] {
	return func(yield func(api.Src) bool) {
		var waiting []int
		tell := func(l []api.Src) bool {
			for _, s := range l {
				if s.Kind == api.SrcVirt && !w.virts[s.N] {
					w.virts[s.N] = true
					waiting = append(waiting, s.N)
				}
				if !yield(s) {
					return false
				}
			}
			return true
		}
		for n := link; n >= 0 && !w.links[n]; n = w.trace.Links[n].Up {
			w.links[n] = true
			if !tell(w.trace.Links[n].Regs) {
				return
			}
		}
		for len(waiting) > 0 {
			last := len(waiting) - 1
			n := waiting[last]
			waiting = waiting[:last]
			if !tell(w.trace.Virts[n].Cells) {
				return
			}
		}
	}
}

// taken tells what an operation of a trace that is right takes: its arguments, and what its link takes; behind the last one, Back.
func taken(t api.Trace, op int) iter.Seq[api.Src] {
	return func(yield func(api.Src) bool) {
		own, link := t.Back, -1
		if op < len(t.Ops) {
			own, link = t.Ops[op].Args, t.Ops[op].Snap
		}
		for _, s := range own {
			if !yield(s) {
				return
			}
		}
		for s := range walkOf(t).from(link) {
			if !yield(s) {
				return
			}
		}
	}
}
