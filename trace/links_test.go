package trace

import (
	"slices"
	"testing"

	"swath/api"
)

// end is what is told of host if something else than an operation is wrong.
const end = 4

// taking is a trace of 6 operations, of which 0, 2 and 4 make v1, v3 and v5; none takes one of the links yet.
func taking(links []api.Link, virts []api.Virt) api.Trace {
	x := api.Trace{Ins: []int{3}, Links: links, Virts: virts, Back: []api.Src{v(0)}}
	for n := range 6 {
		x.Ops = append(x.Ops, api.Op{Op: []int{api.InsIn, api.InsStep}[n%2], Snap: -1})
	}
	return x
}

// wantTaken has each variable in a place that the last link reaches, and that link with each operation: it is right from the first operation on ahead of which the variable is made.
func wantTaken(t *testing.T, links []api.Link, virts []api.Virt, source *api.Src) {
	t.Helper()
	for n := range 9 {
		*source = v(n)
		for at := range 6 {
			x := taking(links, virts)
			x.Ops[at].Snap = len(links) - 1
			made := n == 0 || n < 7 && n%2 == 1 && n-1 < at
			if made {
				wantFault(t, x, -1)
			} else {
				wantFault(t, x, at)
			}
		}
	}
	*source = num(0)
}

func link(up int, regs ...api.Src) api.Link { return api.Link{Up: up, Regs: regs} }

func virt(cells ...api.Src) api.Virt { return api.Virt{Cells: cells} }

func TestWhatALinkTakes(t *testing.T) { // P16.1
	l := []api.Link{link(-1, num(0), num(0), num(0))}
	for n := range 3 {
		wantTaken(t, l, nil, &l[0].Regs[n])
	}
}

func TestWhatLinksAboveTake(t *testing.T) { // P16.1
	l := []api.Link{link(-1, num(0)), link(0, num(0), num(0)), link(1), link(2, num(0))}
	for n := range l {
		for r := range l[n].Regs {
			wantTaken(t, l, nil, &l[n].Regs[r])
		}
	}
	// Not the link ahead, but the one that Up tells is above.
	l = []api.Link{link(-1, num(0)), link(-1, v(9)), link(0, num(0))}
	wantTaken(t, l, nil, &l[0].Regs[0])
	wantTaken(t, l, nil, &l[2].Regs[0])
}

func TestWhatVirtsTake(t *testing.T) { // P16.1
	// Directly, by the link above, one from another (to a later and to an earlier one), in a ring, from itself.
	l := []api.Link{link(-1, w(4)), link(0, num(7), w(2), v(0))}
	all := []api.Virt{virt(num(0), num(1)), virt(w(0), num(2)), virt(w(3), num(3), w(2)), virt(w(1), w(2), num(4)), virt(num(5))}
	for n := range all {
		for c, s := range all[n].Cells {
			if s.Kind == api.SrcConst {
				wantTaken(t, l, all, &all[n].Cells[c])
			}
		}
	}
}

// TestWhatIsNotReached: links beside those that are taken, and Virts that none of these holds, may take what never is made.
func TestWhatIsNotReached(t *testing.T) { // P16.1
	links := []api.Link{link(-1, v(0)), link(0, v(100)), link(0, w(1)), link(1, w(2))}
	virts := []api.Virt{virt(v(3), w(0)), virt(num(1)), virt(v(77), w(0), w(3)), virt(v(2))}
	for at := range 6 {
		x := taking(links, virts)
		wantFault(t, x, -1)
		x.Ops[at].Snap = 2
		wantFault(t, x, -1)
		x.Ops[at].Snap = 0
		wantFault(t, x, -1)
		for _, bad := range []int{1, 3} {
			x.Ops[at].Snap = bad
			wantFault(t, x, at)
		}
	}
}

// TestNotYetAndThen: one link may be right for a later operation and wrong for an earlier one; what it takes is asked for each.
func TestNotYetAndThen(t *testing.T) { // P16.1
	links := []api.Link{link(-1, v(0)), link(0, v(3), w(0)), link(1, w(1))}
	virts := []api.Virt{virt(v(1), w(1)), virt(v(5))}
	for first := range 6 {
		for second := range 6 {
			x := taking(links, virts)
			x.Ops[first].Snap, x.Ops[second].Snap = 2, 2
			// v5 is made by operation 4.
			if at := min(first, second); at < 5 {
				wantFault(t, x, at)
			} else {
				wantFault(t, x, -1)
			}
			// Link 0 has been looked at by then.
			x = taking(links, virts)
			x.Ops[first].Snap, x.Ops[second].Snap = 0, 1
			// w0 reaches w1.
			if second < 5 {
				wantFault(t, x, second)
			} else {
				wantFault(t, x, -1)
			}
		}
	}
}

// TestNeverLeavingHasLinksToo: what the link of an operation takes that never leaves is asked as well.
func TestNeverLeavingHasLinksToo(t *testing.T) { // P16.1
	for _, l := range lines {
		for _, n := range []int{0, 3, 4, 5, 6, 50} {
			x := host(sample(l.op))
			x.Ops[here].Snap = 4
			x.Links = append(x.Links, link(-1, v(n)))
			if n == 0 || n == 3 {
				wantFault(t, x, -1)
			} else {
				wantFault(t, x, here)
			}
		}
	}
}

func TestUps(t *testing.T) { // P16.1
	for n := range 4 {
		for up := -3; up < 7; up++ {
			x := host(plain())
			x.Links[n].Up = up
			if up >= -1 && up < n {
				wantFault(t, x, -1)
			} else {
				wantFault(t, x, end)
			}
		}
		for _, up := range far {
			x := host(plain())
			x.Links[n].Up = int(up)
			wantFault(t, x, end)
		}
	}
}

// TestFreeFields: whatever stands in fields of which the chapter says nothing is right.
func TestFreeFields(t *testing.T) { // P16.1
	for _, n := range append(slices.Clone(far), -1, 0, 1, 1000, 1001) {
		x := host(plain())
		x.Fn, x.Pc, x.Key.Merge = int(n), int(n), int(n)
		x.Links[1].Fn, x.Links[1].Pc, x.Links[1].Into = int(n), int(n), int(n)
		x.Key.Greens[0], x.Key.Greens[3] = api.Value{Kind: int(n), N: n}, api.Value{Kind: int(n), N: n}
		wantFault(t, x, -1)
	}
}

func TestHowManyRegisters(t *testing.T) { // P16.1
	for n := range 4 {
		for _, count := range []int{0, 1, 999, 1000, 1001, 1002, 3000} {
			x := host(plain())
			x.Links[n].Regs = slices.Repeat([]api.Src{num(2)}, count)
			if count <= 1000 {
				wantFault(t, x, -1)
			} else {
				wantFault(t, x, end)
			}
		}
	}
}

func TestRecsAndCells(t *testing.T) { // P16.1
	for n := range 4 {
		for _, rec := range []int{-2, -1, 0, 1, 500, 999, 1000, 1001, 1002} {
			x := host(plain())
			x.Virts[n].Rec = rec
			if rec >= 0 && rec <= 1000 {
				wantFault(t, x, -1)
			} else {
				wantFault(t, x, end)
			}
		}
		for _, rec := range far {
			x := host(plain())
			x.Virts[n].Rec = int(rec)
			wantFault(t, x, end)
		}
		for _, count := range []int{0, 1, 999, 1000, 1001, 1002, 3000} {
			x := host(plain())
			x.Virts[n].Cells = slices.Repeat([]api.Src{num(2)}, count)
			if count <= 1000 {
				wantFault(t, x, -1)
			} else {
				wantFault(t, x, end)
			}
		}
	}
}

// TestSourcesOfLinksAndVirts has each kind of source in each place, whether the link or Virt is taken or not.
func TestSourcesOfLinksAndVirts(t *testing.T) { // P16.1
	for _, snap := range []int{-1, 2} {
		base := host(plain())
		base.Ops[1].Snap, base.Ops[3].Snap = -1, snap
		wantFault(t, base, -1)
		for place := range sourcesOf(&base) {
			with := func(s api.Src, right bool) {
				t.Helper()
				x := copied(base)
				*sourcesOf(&x)[place] = s
				if right {
					wantFault(t, x, -1)
				} else {
					wantFault(t, x, end)
				}
			}
			for _, s := range constants {
				with(s, true)
			}
			for _, s := range badSources {
				with(s, false)
			}
			for n := range 4 {
				with(v(n), true)
				with(w(n), true)
			}
			for _, n := range []int{-2, -1, 4, 5, 1000} {
				with(w(n), false)
			}
		}
		// What there isn't counts only where it is taken.
		x := copied(base)
		x.Links[0].Regs[0] = v(1 << 40)
		if snap < 0 {
			wantFault(t, x, -1)
		} else {
			wantFault(t, x, 3)
		}
	}
}

// sourcesOf are all the places of sources of a trace's links and Virts.
func sourcesOf(x *api.Trace) []*api.Src {
	var l []*api.Src
	for n := range x.Links {
		for r := range x.Links[n].Regs {
			l = append(l, &x.Links[n].Regs[r])
		}
	}
	for n := range x.Virts {
		for c := range x.Virts[n].Cells {
			l = append(l, &x.Virts[n].Cells[c])
		}
	}
	return l
}

// TestLongChains: links above one another and Virts within one another may be many, for each of many operations.
func TestLongChains(t *testing.T) { // P1, P16.1, P16.4
	const many = 50000
	x := api.Trace{Ins: []int{0, 1, 2, 3}, Back: []api.Src{v(0), v(1), v(2), v(3)}}
	for n := range many {
		x.Links = append(x.Links, link(n-1, v(n%2)))
		x.Virts = append(x.Virts, virt(w((n+1)%many), v(2)))
		x.Ops = append(x.Ops, api.Op{Op: api.InsIn, Snap: many - 1})
	}
	x.Links[5].Regs = append(x.Links[5].Regs, w(7))
	wantFault(t, x, -1)
	for _, op := range []int{0, many / 2, many - 1} {
		if u := Uses(x, op); !slices.Equal(u, []int{0, 1, 2}) {
			t.Error(op, u)
		}
	}
	// v4 is made by operation 0, which may not take it yet.
	x.Virts[6].Cells[1] = v(4)
	wantFault(t, x, 0)
	x.Ops[0].Snap = 4
	wantFault(t, x, -1)
	x.Virts[6].Cells[1] = v(many)
	wantFault(t, x, 1)
	if Uses(x, 0) != nil {
		t.Error("it is refused")
	}
}
