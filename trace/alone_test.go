package trace

import (
	"fmt"
	"reflect"
	"slices"
	"testing"

	"swath/api"
)

// mark stands behind the length of each list of a roomy trace.
const mark = -987654

var spoilt = api.Src{Kind: mark, Val: api.Value{Kind: mark, N: mark}, N: mark}

// roomy is the same trace in memory of its own, each of its lists with marks behind its length.
func roomy(t api.Trace) api.Trace {
	t = copied(t)
	for n := range t.Ops {
		t.Ops[n].Args = withRoom(t.Ops[n].Args, spoilt)
	}
	for n := range t.Links {
		t.Links[n].Regs = withRoom(t.Links[n].Regs, spoilt)
	}
	for n := range t.Virts {
		t.Virts[n].Cells = withRoom(t.Virts[n].Cells, spoilt)
	}
	t.Ins = withRoom(t.Ins, mark)
	t.Ops = withRoom(t.Ops, api.Op{Op: mark, Args: []api.Src{spoilt}})
	t.Links = withRoom(t.Links, api.Link{Up: mark, Regs: []api.Src{spoilt}})
	t.Virts = withRoom(t.Virts, api.Virt{Rec: mark, Cells: []api.Src{spoilt}})
	t.Back = withRoom(t.Back, spoilt)
	return t
}

func withRoom[T any](l []T, v T) []T {
	room := append(slices.Clone(l), v, v, v)
	return room[:len(l)]
}

// whole is a trace as a text, with what lies behind its lists.
func whole(t api.Trace) string {
	s := text(t)
	for _, l := range parts(&t) {
		if l.Kind() == reflect.Slice {
			s += fmt.Sprint(l.Slice(0, l.Cap()).Interface())
		}
	}
	return s
}

// aloneTraces are traces of all kinds: right and wrong ones, with nothing and with something everywhere.
func aloneTraces() []api.Trace {
	l := []api.Trace{{}, rich(), host(plain()), host(sample(api.OpLay)), host(sample(api.InsSetElem))}
	for _, s := range spoils() {
		x := host(sample(api.InsArr))
		s.do(&x)
		l = append(l, x)
	}
	return l
}

// TestNothingIsChanged: no call changes what it is given, or what lies behind it, or hangs on that.
func TestNothingIsChanged(t *testing.T) { // P2
	for _, x := range aloneTraces() {
		y, z := roomy(x), roomy(x)
		before := whole(y)
		at, e := Check(x)
		if yAt, yE := Check(y); yAt != at || yE != e {
			t.Error(at, e, yAt, yE)
		}
		if Show(x) != Show(y) {
			t.Error(Show(x), Show(y))
		}
		wantSame(t, x, y, true)
		wantSame(t, y, z, true)
		for op := -1; op <= len(x.Ops)+1; op++ {
			if !slices.Equal(Uses(x, op), Uses(y, op)) {
				t.Error(op, Uses(x, op), Uses(y, op))
			}
		}
		if whole(y) != before || whole(z) != before {
			t.Error(before, "has become", whole(y), whole(z))
		}
	}
}

// TestUsesAlone: what Uses answers is neither the trace's nor another answer's.
func TestUsesAlone(t *testing.T) { // P2
	x := roomy(host(sample(api.InsSetElem)))
	x.Ops[here].Snap = 2
	before := whole(x)
	for op := range 5 {
		first, second := Uses(x, op), Uses(x, op)
		want := slices.Clone(first)
		room := first[:cap(first)]
		for n := range room {
			if n >= len(first) && room[n] == mark {
				t.Error("what lies behind a list is handed out")
			}
			room[n] = mark
		}
		if !slices.Equal(second, want) || !slices.Equal(Uses(x, op), want) || whole(x) != before {
			t.Error(op, second, want)
		}
	}
}

// TestSameLists: lists that share memory within one trace, or with another, are as good as others.
func TestSameLists(t *testing.T) { // P2
	one := []api.Src{v(0), num(3), v(0), w(0)}
	x := api.Trace{
		Ins:   []int{0, 1},
		Ops:   []api.Op{{Op: api.InsEq, Args: one[:2], Snap: 1}, {Op: api.InsEq, Args: one[1:3], Snap: -1}},
		Links: []api.Link{link(-1, one...), link(0, one[2:]...)},
		Virts: []api.Virt{virt(one...)},
		Back:  one[:2],
	}
	wantFault(t, x, -1)
	wantSame(t, x, copied(x), true)
	wantUses(t, x, 0, 0)
	wantUses(t, x, 1, 0)
	wantUses(t, x, 2, 0)
	wantText(t, x, "trace 0 0 0,1", "v2 = eq v0 3 !1", "v3 = eq 3 v0", "back v0 3", "l0 up-1 0:0 0 v0 3 v0 w0", "l1 up0 0:0 0 v0 w0", "w0 r0 v0 3 v0 w0")
}
