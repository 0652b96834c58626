package trace

import (
	"fmt"
	"maps"
	"reflect"
	"slices"
	"testing"

	"swath/api"
)

// reckoning is the chapter's words as plainly as they stand, of one trace.
type reckoning struct{ api.Trace }

func within(n, least, most int64) bool { return least <= n && n <= most }

// isRight tells whether a source is one of the three kinds, with that kind's fields.
func (r reckoning) isRight(s api.Src) bool {
	empty := s.Val.Kind == 0 && s.Val.N == 0
	return s.Kind == api.SrcConst && s.N == 0 || s.Kind == api.SrcVar && s.N >= 0 && empty ||
		s.Kind == api.SrcVirt && within(int64(s.N), 0, int64(len(r.Virts))-1) && empty
}

func (r reckoning) areRight(l []api.Src) bool {
	return len(l) <= 1000 && !slices.ContainsFunc(l, func(s api.Src) bool { return !r.isRight(s) })
}

// linksAndVirts tells whether all links and Virts are right.
func (r reckoning) linksAndVirts() bool {
	for n, l := range r.Links {
		if !within(int64(l.Up), -1, int64(n)-1) || !r.areRight(l.Regs) {
			return false
		}
	}
	for _, v := range r.Virts {
		if !within(int64(v.Rec), 0, 1000) || !r.areRight(v.Cells) {
			return false
		}
	}
	return true
}

// made are the variables of the inputs and of the operations ahead of one.
func (r reckoning) made(op int) map[int]bool {
	all := map[int]bool{}
	for n := range r.Ins {
		all[n] = true
	}
	for n := range op {
		if l, is := lineOf(r.Ops[n].Op); is && l.makes {
			all[len(r.Ins)+n] = true
		}
	}
	return all
}

// byLink is what a link takes, those above it, and the Virts that are reached: these grow until there are no more.
func (r reckoning) byLink(link int) []api.Src {
	var all []api.Src
	for n := link; n != -1; n = r.Links[n].Up {
		all = append(all, r.Links[n].Regs...)
	}
	virts := map[int]bool{}
	for more := true; more; {
		more = false
		for _, s := range slices.Clone(all) {
			if s.Kind == api.SrcVirt && !virts[s.N] {
				virts[s.N] = true
				all = append(all, r.Virts[s.N].Cells...)
				more = true
			}
		}
	}
	return all
}

// takes tells whether each of these is a constant or a variable of those that are made; a Virt, if it may be one.
func (r reckoning) takes(l []api.Src, made map[int]bool, virts bool) bool {
	for _, s := range l {
		if !r.isRight(s) || s.Kind == api.SrcVar && !made[s.N] || s.Kind == api.SrcVirt && !virts {
			return false
		}
	}
	return true
}

// operation tells whether an operation is right; the links and Virts are.
func (r reckoning) operation(at int) bool {
	o, made := r.Ops[at], r.made(at)
	l, is := lineOf(o.Op)
	if !is || l.args >= 0 && len(o.Args) != l.args || len(o.Args) > 1000 || !r.takes(o.Args, made, false) {
		return false
	}
	if l.name == "is" && o.Args[1].Kind != api.SrcConst {
		return false
	}
	if !within(o.K, l.k[0], l.k[1]) || !within(int64(o.C), l.c[0], l.c[1]) || !within(int64(o.Snap), -1, int64(len(r.Links))-1) {
		return false
	}
	return r.takes(r.byLink(o.Snap), made, true)
}

// rest tells whether what is neither an operation nor a link nor a Virt is right.
func (r reckoning) rest() bool {
	for n, in := range r.Ins {
		if !within(int64(in), 0, 999) || n > 0 && in <= r.Ins[n-1] {
			return false
		}
	}
	return within(int64(r.Key.N), 0, 4) && len(r.Back) == len(r.Ins) && r.takes(r.Back, r.made(len(r.Ops)), false)
}

// checked is what Check is to answer.
func (r reckoning) checked() (int, api.Errno) {
	if !r.linksAndVirts() {
		return len(r.Ops), api.ErrTrace
	}
	for at := range r.Ops {
		if !r.operation(at) {
			return at, api.ErrTrace
		}
	}
	if !r.rest() {
		return len(r.Ops), api.ErrTrace
	}
	return 0, api.OK
}

// uses is what Uses is to answer.
func (r reckoning) uses(op int) []int {
	if _, e := r.checked(); e != api.OK || op < 0 || op > len(r.Ops) {
		return nil
	}
	all := r.Back
	if op < len(r.Ops) {
		all = append(r.byLink(r.Ops[op].Snap), r.Ops[op].Args...)
	}
	used := map[int]bool{}
	for _, s := range all {
		if s.Kind == api.SrcVar {
			used[s.N] = true
		}
	}
	return slices.Sorted(maps.Keys(used))
}

// shows are sources as a text, each with a blank ahead.
func shows(l []api.Src) string {
	s := ""
	for _, of := range l {
		signs := map[[2]int]string{{api.SrcConst, api.Int}: "", {api.SrcConst, api.Null}: "null", {api.SrcConst, api.Ref}: "@", {api.SrcVar}: "v", {api.SrcVirt}: "w"}
		kind := [2]int{of.Kind}
		if of.Kind == api.SrcConst {
			kind[1] = of.Val.Kind
		}
		sign, is := signs[kind]
		switch {
		case !is:
			s += " ?"
		case sign == "null":
			s += " null"
		case of.Kind == api.SrcConst:
			s += fmt.Sprint(" ", sign, of.Val.N)
		default:
			s += fmt.Sprint(" ", sign, of.N)
		}
	}
	return s
}

// shown is what Show is to answer.
func (r reckoning) shown() string {
	s := fmt.Sprintf("trace %d %d ", r.Fn, r.Pc)
	for n, in := range r.Ins {
		if n > 0 {
			s += ","
		}
		s += fmt.Sprint(in)
	}
	s += "\n"
	for n, o := range r.Ops {
		l, is := lineOf(o.Op)
		if !is {
			l.name = "?"
		}
		if l.makes {
			s += fmt.Sprintf("v%d = ", len(r.Ins)+n)
		}
		s += l.name + shows(o.Args)
		if o.K != 0 {
			s += fmt.Sprintf(" k%d", o.K)
		}
		if o.C != 0 {
			s += fmt.Sprintf(" c%d", o.C)
		}
		if o.Snap != -1 {
			s += fmt.Sprintf(" !%d", o.Snap)
		}
		s += "\n"
	}
	s += fmt.Sprintf("back%s\n", shows(r.Back))
	for n, l := range r.Links {
		s += fmt.Sprintf("l%d up%d %d:%d %d%s\n", n, l.Up, l.Fn, l.Pc, l.Into, shows(l.Regs))
	}
	for n, v := range r.Virts {
		s += fmt.Sprintf("w%d r%d%s\n", n, v.Rec, shows(v.Cells))
	}
	return s
}

// wantAll wants of a trace all that the chapter says of it, and that no call changes it; it is what Check says.
func wantAll(t *testing.T, x api.Trace) (int, api.Errno) {
	t.Helper()
	before, r := copied(x), reckoning{x}
	at, e := r.checked()
	wantCheck(t, x, at, e)
	if got, want := Show(x), r.shown(); got != want {
		t.Errorf("shown as\n%s, not as\n%s", got, want)
	}
	for op := -1; op <= len(x.Ops)+1; op++ {
		wantUses(t, x, op, r.uses(op)...)
	}
	for _, o := range x.Ops {
		if l, is := lineOf(o.Op); is {
			wantKind(t, o.Op, l.makes, l.leaves, l.args)
		} else {
			wantKind(t, o.Op, false, false, -1)
		}
	}
	wantSame(t, x, before, true)
	if !reflect.DeepEqual(x, before) {
		t.Errorf("%s has become %s", text(before), text(x))
	}
	return at, e
}
