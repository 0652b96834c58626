package live

import (
	"swath/api"
	"swath/ir"
)

// none stands for the register of an instruction that writes no register that counts.
const none = -1

// place is what is known of an instruction: what is live ahead of it, the register that it writes, or none, and the places from which
// the code may go on to it; waits, while its set has grown and those places have not been told.
type place struct {
	live   set
	writes int
	from   []int
	waits  bool
}

// reckoning is the places of a function whose sets still grow; waiting are the numbers of those that wait.
type reckoning struct {
	places  []place
	waiting []int
}

// reckoned are the places of a function with the sets grown, from what is read alone, until none grows any more: so they are the least.
func reckoned(f api.Func) []place {
	r := reckoning{places: make([]place, len(f.Code))}
	for at, i := range f.Code {
		r.places[at].live = readBy(i, f.Regs)
		r.places[at].writes = writtenBy(i, f.Regs)
		for _, next := range ir.Next(f, at) {
			r.places[next].from = append(r.places[next].from, at)
		}
		r.wait(at)
	}
	for len(r.waiting) > 0 {
		r.tell(r.take())
	}
	return r.places
}

// readBy are the registers that an instruction reads, of those that count in a function with so many.
func readBy(i api.Ins, regs int) set {
	var s set
	for _, n := range ir.Reads(i) {
		if counts(n, regs) {
			s.add(n)
		}
	}
	return s
}

// writtenBy is the register that an instruction writes, if it counts in a function with so many. One that there isn't is as good as
// none: it could be neither live nor dead.
func writtenBy(i api.Ins, regs int) int {
	if n := ir.Writes(i); counts(n, regs) {
		return n
	}
	return none
}

// counts tells whether there is such a register in a function with so many.
func counts(register, regs int) bool {
	return register >= 0 && register < min(regs, most)
}

func (r *reckoning) wait(at int) {
	if !r.places[at].waits {
		r.places[at].waits = true
		r.waiting = append(r.waiting, at)
	}
}

// take is the place that began to wait last, which waits no more: straight code is thus gone through once, from its end.
func (r *reckoning) take() int {
	last := len(r.waiting) - 1
	at := r.waiting[last]
	r.waiting = r.waiting[:last]
	r.places[at].waits = false
	return at
}

// tell has the places from which the code may go on to this one take over what is live here.
func (r *reckoning) tell(at int) {
	for _, n := range r.places[at].from {
		p := &r.places[n]
		grown := p.live.joined(r.places[at].live.without(p.writes))
		if grown != p.live {
			p.live = grown
			r.wait(n)
		}
	}
}
