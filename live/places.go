package live

import (
	"swath/api"
	"swath/ir"
)

// place is what is known of an instruction: what is live ahead of it, the register that it writes, and the places from which the
// code may go on to it; waits, while its set has grown and those places have not been told.
type place struct {
	live   set
	writes int
	from   []int
	waits  bool
}

// reckoning is the places of a function whose sets still grow; waiting are the numbers of those that wait.
type reckoning struct {
	places  []place
	waiting []int
}

// reckoned are the places of a function with the sets grown, from what is read alone, until none grows any more: so they are the least.
func reckoned(f api.Func) []place {
	r := reckoning{places: make([]place, len(f.Code))}
	for at, i := range f.Code {
		r.places[at].live = readBy(i, f.Regs)
		r.places[at].writes = ir.Writes(i)
		for _, next := range ir.Next(f, at) {
			r.places[next].from = append(r.places[next].from, at)
		}
		r.wait(at)
	}
	for len(r.waiting) > 0 {
		r.tell(r.take())
	}
	return r.places
}

// readBy are the registers that an instruction reads, of those that count in a function with so many.
func readBy(i api.Ins, regs int) set {
	var s set
	for _, n := range ir.Reads(i) {
		if n >= 0 && n < min(regs, most) {
			s.add(n)
		}
	}
	return s
}

func (r *reckoning) wait(at int) {
	if !r.places[at].waits {
		r.places[at].waits = true
		r.waiting = append(r.waiting, at)
	}
}

// take is the place that began to wait last, which waits no more: straight code is thus gone through once, from its end.
func (r *reckoning) take() int {
	last := len(r.waiting) - 1
	at := r.waiting[last]
	r.waiting = r.waiting[:last]
	r.places[at].waits = false
	return at
}

// tell has the places from which the code may go on to this one take over what is live here.
func (r *reckoning) tell(at int) {
	for _, n := range r.places[at].from {
		p := &r.places[n]
		grown := p.live.joined(r.places[at].live.without(p.writes))
		if grown != p.live {
			p.live = grown
			r.wait(n)
		}
	}
}
