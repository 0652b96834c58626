package trace

import (
	"slices"
	"testing"

	"swath/api"
)

func TestExample(t *testing.T) { // P16.1
	x := api.Trace{
		Ins:   []int{0},
		Ops:   []api.Op{{Op: api.InsStep}, {Op: api.InsBin, Args: []api.Src{v(0), num(1)}, K: 1}},
		Links: []api.Link{{Up: -1}},
		Back:  []api.Src{v(2)},
	}
	wantCheck(t, x, 0, api.OK)
	x.Links = nil
	wantCheck(t, x, 0, api.ErrTrace)
	x.Ops[0].Snap = -1
	wantCheck(t, x, 1, api.ErrTrace)
}

func TestNothing(t *testing.T) { // P16.1
	wantCheck(t, api.Trace{}, 0, api.OK)
	wantCheck(t, api.Trace{Ins: []int{}, Ops: []api.Op{}, Links: []api.Link{}, Virts: []api.Virt{}, Back: []api.Src{}}, 0, api.OK)
	// With no operations 0 is how many there are.
	wantCheck(t, api.Trace{Ins: []int{0}}, 0, api.ErrTrace)
	wantCheck(t, api.Trace{Links: []api.Link{{}}}, 0, api.ErrTrace)
	wantCheck(t, api.Trace{Links: []api.Link{{Up: -1}}, Virts: []api.Virt{{}}}, 0, api.OK)
}

func TestEveryOperationIsRight(t *testing.T) { // P16.1
	for _, l := range lines {
		wantRight(t, sample(l.op), true)
		// Also as the only one, of a trace without inputs.
		o := sample(l.op)
		for n := range o.Args {
			o.Args[n] = num(3)
		}
		wantCheck(t, api.Trace{Ops: []api.Op{o}}, 0, api.OK)
	}
}

func TestOpsThatAreNone(t *testing.T) { // P16.1
	for _, op := range oddOps {
		for _, l := range lines {
			o := sample(l.op)
			o.Op = op
			wantRight(t, o, false)
		}
		wantRight(t, api.Op{Op: op}, false)
		wantCheck(t, api.Trace{Ops: []api.Op{{Op: op, Snap: -1}}}, 0, api.ErrTrace)
	}
}

func TestHowManyArguments(t *testing.T) { // P16.1
	for _, l := range lines {
		for count := range 7 {
			o := sample(l.op)
			o.Args = slices.Repeat([]api.Src{num(1)}, count)
			wantRight(t, o, count == l.args || l.args < 0)
			o.Args = slices.Repeat([]api.Src{v(0)}, count)
			// The second one of is has to be a constant.
			wantRight(t, o, (count == l.args || l.args < 0) && l.op != api.OpIs)
			// What lies behind the length is no argument.
			o.Args = append(slices.Clone(o.Args), v(1), api.Src{Kind: 9})[:count]
			wantRight(t, o, (count == l.args || l.args < 0) && l.op != api.OpIs)
		}
	}
	for _, l := range lines {
		for _, count := range []int{100, 999, 1000, 1001, 1002, 5000} {
			o := sample(l.op)
			o.Args = slices.Repeat([]api.Src{num(1)}, count)
			wantRight(t, o, l.op == api.OpLay && count <= 1000)
		}
	}
}

// TestArguments has each kind of source as each argument of each operation.
func TestArguments(t *testing.T) { // P16.1
	for _, l := range lines {
		for at := range sample(l.op).Args {
			second := l.op == api.OpIs && at == 1
			with := func(s api.Src, right bool) {
				t.Helper()
				o := sample(l.op)
				o.Args = slices.Clone(o.Args)
				o.Args[at] = s
				wantRight(t, o, right)
			}
			for _, s := range constants {
				with(s, true)
			}
			for _, s := range badSources {
				with(s, false)
			}
			for n := range 4 {
				with(v(n), !second)
			}
			// v4 is made by no operation, v5 is the operation's own, v6 is made behind it, v7 there isn't.
			for n := 4; n < 12; n++ {
				with(v(n), false)
			}
			for _, n := range far {
				with(v(int(n)), false)
			}
			for n := -1; n < 6; n++ {
				with(w(n), false)
			}
		}
	}
}

// TestLayTakesMany has one wrong among many arguments.
func TestLayTakesMany(t *testing.T) { // P16.1
	for _, at := range []int{0, 1, 500, 999} {
		for _, s := range []api.Src{v(3), v(4), w(0), num(0), {N: 1}} {
			o := sample(api.OpLay)
			o.Args = slices.Repeat([]api.Src{v(0)}, 1000)
			o.Args[at] = s
			wantRight(t, o, s == v(3) || s == num(0))
		}
	}
}

// TestWhatIsMadeAhead has each operation in the place of each: what it makes may be taken behind it, by operations and by Back, and by none ahead of it or at it.
func TestWhatIsMadeAhead(t *testing.T) { // P16.1
	for _, l := range lines {
		for at := range 5 {
			for taker := range 5 {
				if taker == at {
					continue
				}
				x := api.Trace{Ins: []int{4, 6}, Ops: slices.Repeat([]api.Op{plain()}, 5), Back: []api.Src{num(0), num(0)}}
				x.Ops[at] = sample(l.op)
				x.Ops[at].Args = slices.Repeat([]api.Src{num(0)}, len(x.Ops[at].Args))
				wantFault(t, x, -1)
				x.Ops[taker] = api.Op{Op: api.InsSetRoot, Args: []api.Src{v(2 + at)}, Snap: -1}
				if at < taker && l.makes {
					wantFault(t, x, -1)
				} else {
					wantFault(t, x, taker)
				}
				x.Ops[taker] = plain()
				x.Back[1] = v(2 + at)
				if l.makes {
					wantFault(t, x, -1)
				} else {
					wantFault(t, x, 5)
				}
			}
		}
	}
}

func TestNumbersK(t *testing.T) { // P16.1
	for _, l := range lines {
		for _, n := range []int64{-1, 0, 1, 2, 11, 12, 13, 14, 15, 16, 35, 999, 1000, 1001, 999999, 1000000, 1000001, 1<<32 + 1, 1<<32 + 13} {
			o := sample(l.op)
			o.K = n
			wantRight(t, o, l.k[0] <= n && n <= l.k[1])
		}
		for _, n := range far {
			o := sample(l.op)
			o.K = n
			wantRight(t, o, false)
		}
		for n := int64(-20); n <= 20; n++ {
			o := sample(l.op)
			o.K = n
			wantRight(t, o, l.k[0] <= n && n <= l.k[1])
		}
	}
}

func TestNumbersC(t *testing.T) { // P16.1
	for _, l := range lines {
		for _, n := range []int{-2, -1, 0, 1, 2, 500, 999, 1000, 1001, 1002} {
			o := sample(l.op)
			o.C = n
			wantRight(t, o, int(l.c[0]) <= n && n <= int(l.c[1]))
		}
		for _, n := range far {
			o := sample(l.op)
			o.C = int(n)
			wantRight(t, o, false)
		}
	}
}

func TestSnaps(t *testing.T) { // P16.1
	for _, l := range lines {
		for n := -3; n < 8; n++ {
			o := sample(l.op)
			o.Snap = n
			// host has 4 links.
			wantRight(t, o, -1 <= n && n < 4)
		}
		for _, n := range far {
			o := sample(l.op)
			o.Snap = int(n)
			wantRight(t, o, false)
		}
		// Without links there is -1 alone.
		for n := -2; n < 3; n++ {
			o := sample(l.op)
			o.Snap, o.Args = n, slices.Repeat([]api.Src{num(0)}, len(o.Args))
			x := api.Trace{Ops: []api.Op{o}}
			if n == -1 {
				wantFault(t, x, -1)
			} else {
				wantFault(t, x, 0)
			}
		}
	}
}

// TestFieldsAtOnce has several numbers of one operation at their bounds.
func TestFieldsAtOnce(t *testing.T) { // P16.1
	for _, op := range []int{api.InsGet, api.InsPut, api.InsNew} {
		for _, k := range []int64{-1, 0, 1000, 1001} {
			for _, c := range []int{-1, 0, 1000, 1001} {
				o := sample(op)
				o.K, o.C = k, c
				wantRight(t, o, k >= 0 && k <= 1000 && c >= 0 && c <= 1000)
			}
		}
	}
}

// TestInputsAreCounted: it hangs on how many inputs there are which variable an operation makes.
func TestInputsAreCounted(t *testing.T) { // P16.1
	for ins := range 6 {
		x := api.Trace{Ops: []api.Op{plain(), {Op: api.InsSetRoot, Args: []api.Src{v(0)}, Snap: -1}}}
		for n := range ins {
			x.Ins, x.Back = append(x.Ins, n), append(x.Back, num(0))
		}
		for n := range 10 {
			x.Ops[1].Args[0] = v(n)
			if n <= ins {
				wantFault(t, x, -1)
			} else {
				wantFault(t, x, 1)
			}
		}
	}
}
