package trace

import (
	"math"
	"slices"
	"testing"

	"swath/api"
)

func wantUses(t *testing.T, x api.Trace, op int, want ...int) {
	t.Helper()
	if got := Uses(x, op); !slices.Equal(got, want) {
		t.Errorf("%d uses %v, not %v, in %.1000s", op, got, want, text(x))
	}
}

func TestUsesOfEachOperation(t *testing.T) { // P16.4
	for _, l := range lines {
		x := host(sample(l.op))
		var want []int
		for _, s := range x.Ops[here].Args {
			if s.Kind == api.SrcVar {
				want = append(want, s.N)
			}
		}
		wantUses(t, x, here, want...)
		// Links 2, 1 and 0, and all Virts.
		x.Ops[here].Snap = 2
		wantUses(t, x, here, 0, 1, 3)
		x.Ops[here].Snap = 3
		if l.args > 0 || l.op == api.OpLay {
			want = []int{0, 2}
			if len(x.Ops[here].Args) == 3 {
				want = []int{0, 2, 3}
			}
		} else {
			want = []int{2}
		}
		wantUses(t, x, here, want...)
	}
}

func TestUsesOfHost(t *testing.T) { // P16.4
	x := host(plain())
	wantUses(t, x, 0)
	wantUses(t, x, 1, 2)
	wantUses(t, x, 2)
	wantUses(t, x, 3, 0, 1, 3)
	wantUses(t, x, 4, 0, 6)
}

func TestUsesOfNoOperation(t *testing.T) { // P16.4
	for _, op := range []int{-1, -2, 5, 6, 100, math.MaxInt, math.MinInt} {
		wantUses(t, host(plain()), op)
	}
	for op := -2; op < 3; op++ {
		wantUses(t, api.Trace{}, op)
	}
	wantUses(t, api.Trace{Ins: []int{4}, Back: []api.Src{v(0)}}, 0, 0)
	wantUses(t, api.Trace{Ins: []int{4}, Back: []api.Src{v(0)}}, 1)
}

// TestEachOnceAndRising has variables several times, in arguments and in what the link takes.
func TestEachOnceAndRising(t *testing.T) { // P16.4
	x := api.Trace{Ins: []int{0, 1, 2, 3, 4}, Back: []api.Src{v(4), v(2), v(4), num(1), v(2)}}
	x.Ops = []api.Op{{Op: api.InsSetElem, Args: []api.Src{v(4), v(1), v(4)}, Snap: 1}, {Op: api.OpLay, Args: []api.Src{v(3), v(0), v(3), num(2), v(0), v(1)}, Snap: -1}}
	x.Links = []api.Link{link(-1, v(4), w(0), v(2)), link(0, w(0), v(1), w(1), w(0))}
	x.Virts = []api.Virt{virt(w(1), v(2), v(4)), virt(v(1), w(0), v(1))}
	wantUses(t, x, 0, 1, 2, 4)
	wantUses(t, x, 1, 0, 1, 3)
	wantUses(t, x, 2, 2, 4)
}

// TestUsesOfLinksAbove: those that Up tells, and no other ones.
func TestUsesOfLinksAbove(t *testing.T) { // P16.4
	x := api.Trace{Ins: []int{0, 1, 2, 3, 4, 5}, Back: slices.Repeat([]api.Src{num(0)}, 6)}
	x.Links = []api.Link{link(-1, v(0)), link(0, v(1)), link(-1, v(2)), link(1, v(3)), link(2, v(4)), link(3)}
	for range 6 {
		x.Ops = append(x.Ops, api.Op{Op: api.InsStep, Snap: len(x.Ops)})
	}
	wantUses(t, x, 0, 0)
	wantUses(t, x, 1, 0, 1)
	wantUses(t, x, 2, 2)
	wantUses(t, x, 3, 0, 1, 3)
	wantUses(t, x, 4, 2, 4)
	wantUses(t, x, 5, 0, 1, 3)
	wantUses(t, x, 6)
}

// TestUsesOfVirts: those that are reached, also from one another and in rings, and no other ones.
func TestUsesOfVirts(t *testing.T) { // P16.4
	x := api.Trace{Ins: []int{0, 1, 2, 3, 4, 5, 6}, Back: slices.Repeat([]api.Src{num(0)}, 7)}
	// 0 and 1 hold one another, 2 holds itself, 3 holds 1, 4 holds nothing, 5 holds 6 and 6 holds 4.
	x.Virts = []api.Virt{virt(w(1), v(0)), virt(v(1), w(0)), virt(w(2), v(2)), virt(v(3), w(1)), virt(v(4)), virt(v(5), w(6)), virt(w(4), v(6))}
	for n := range x.Virts {
		x.Links = append(x.Links, link(-1, w(n)))
		x.Ops = append(x.Ops, api.Op{Op: api.InsSetRoot, Args: []api.Src{num(0)}, Snap: n})
	}
	wantUses(t, x, 0, 0, 1)
	wantUses(t, x, 1, 0, 1)
	wantUses(t, x, 2, 2)
	wantUses(t, x, 3, 0, 1, 3)
	wantUses(t, x, 4, 4)
	wantUses(t, x, 5, 4, 5, 6)
	wantUses(t, x, 6, 4, 6)
	x.Ops[2].Snap = -1
	wantUses(t, x, 2)
}

// TestUsesOfWhatIsRefused: whatever is wrong, and wherever, there are none of any operation.
func TestUsesOfWhatIsRefused(t *testing.T) { // P16.4
	for _, s := range spoils() {
		x := host(sample(api.InsArr))
		s.do(&x)
		for op := -1; op < 7; op++ {
			wantUses(t, x, op)
		}
	}
}
