package trace

import "swath/api"

// fault is what is thrown where a trace is wrong: at an operation, or behind the last one.
type fault struct {
	at int
}

// judged is Check's answer.
func judged(t api.Trace) (at int, e api.Errno) {
	defer func() {
		switch thrown := recover().(type) {
		case nil:
		case fault:
			at, e = thrown.at, api.ErrTrace
		default:
			panic(thrown)
		}
	}()
	j := judge{trace: t}
	j.whole()
	return 0, api.OK
}

// judge holds a trace against the rules: at is the operation that it looks at, or how many there are while it looks at something
// else; walk is how far it has looked at what links take.
type judge struct {
	trace api.Trace
	at    int
	walk  *walk
}

// want throws where the judge is, unless a rule is kept.
func (j *judge) want(kept bool) {
	if !kept {
		panic(fault{j.at})
	}
}

// wantWithin wants a number from least to most.
func (j *judge) wantWithin(n, least, most int) {
	j.want(n >= least && n <= most)
}

// whole looks at links and Virts first: without these to rely on operations can't be looked at.
func (j *judge) whole() {
	j.at = len(j.trace.Ops)
	for n, l := range j.trace.Links {
		j.link(n, l)
	}
	for _, v := range j.trace.Virts {
		j.virt(v)
	}
	j.walk = walkOf(j.trace)
	for n, o := range j.trace.Ops {
		j.at = n
		j.operation(o)
	}
	j.at = len(j.trace.Ops)
	j.wantWithin(j.trace.Key.N, 0, api.MaxGreens)
	j.inputs()
	j.back()
}

func (j *judge) link(n int, l api.Link) {
	j.wantWithin(l.Up, -1, n-1)
	j.want(len(l.Regs) <= maxRegs)
	for _, s := range l.Regs {
		j.source(s)
	}
}

func (j *judge) virt(v api.Virt) {
	j.wantWithin(v.Rec, 0, maxSort)
	j.want(len(v.Cells) <= maxCells)
	for _, s := range v.Cells {
		j.source(s)
	}
}

// source wants a source to be of one of the kinds, and to have that kind's fields alone. Whether a variable is made is asked where an
// operation takes it.
func (j *judge) source(s api.Src) {
	switch s.Kind {
	case api.SrcConst:
		j.want(s.N == 0)
		return
	case api.SrcVar:
		j.want(s.N >= 0)
	case api.SrcVirt:
		j.wantWithin(s.N, 0, len(j.trace.Virts)-1)
	default:
		j.want(false)
	}
	j.want(s.Val == api.Value{})
}

func (j *judge) operation(o api.Op) {
	j.want(known(o.Op))
	j.arguments(o)
	least, most := kBounds(o.Op)
	j.want(o.K >= least && o.K <= most)
	j.wantWithin(o.C, 0, cBound(o.Op))
	j.wantWithin(o.Snap, -1, len(j.trace.Links)-1)
	// What was made ahead of an operation is made ahead of all behind it: so what the walk has come to needn't be asked again.
	for s := range j.walk.from(o.Snap) {
		j.made(s)
	}
}

func (j *judge) arguments(o api.Op) {
	if args := Args(o.Op); args == open {
		j.want(len(o.Args) <= maxArgs)
	} else {
		j.want(len(o.Args) == args)
	}
	for _, s := range o.Args {
		j.argument(s)
	}
	if o.Op == api.OpIs {
		j.want(o.Args[1].Kind == api.SrcConst)
	}
}

// argument wants a constant, or a variable that is made.
func (j *judge) argument(s api.Src) {
	j.source(s)
	j.want(s.Kind != api.SrcVirt)
	j.made(s)
}

// made wants a variable to be an input, or made by an operation ahead of where the judge is.
func (j *judge) made(s api.Src) {
	if s.Kind != api.SrcVar || s.N < len(j.trace.Ins) {
		return
	}
	n := s.N - len(j.trace.Ins)
	j.want(n < j.at && Makes(j.trace.Ops[n].Op))
}

func (j *judge) inputs() {
	last := -1
	for _, n := range j.trace.Ins {
		j.wantWithin(n, last+1, maxInput)
		last = n
	}
}

func (j *judge) back() {
	j.want(len(j.trace.Back) == len(j.trace.Ins))
	for _, s := range j.trace.Back {
		j.argument(s)
	}
}
