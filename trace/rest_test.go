package trace

import (
	"slices"
	"testing"

	"swath/api"
)

func TestGreens(t *testing.T) { // P16.1
	for n := -3; n < 9; n++ {
		x := host(plain())
		x.Key.N = n
		if n >= 0 && n <= 4 {
			wantFault(t, x, -1)
		} else {
			wantFault(t, x, end)
		}
	}
	for _, n := range far {
		x := host(plain())
		x.Key.N = int(n)
		wantFault(t, x, end)
	}
}

func TestInputs(t *testing.T) { // P16.1
	for _, l := range []struct {
		ins   []int
		right bool
	}{
		{nil, true}, {[]int{}, true}, {[]int{0}, true}, {[]int{999}, true}, {[]int{0, 999}, true}, {[]int{0, 1, 2, 3}, true}, {[]int{5, 7, 998, 999}, true},
		{[]int{-1}, false}, {[]int{1000}, false}, {[]int{0, 0}, false}, {[]int{1, 0}, false}, {[]int{999, 999}, false}, {[]int{0, 1000}, false}, {[]int{-1, 0}, false},
		{[]int{0, 2, 1, 3}, false}, {[]int{0, 1, 2, 2}, false}, {[]int{0, 1, 2, 0}, false}, {[]int{1, 2, 3, 1000}, false}, {[]int{-1, 2, 3}, false},
	} {
		x := api.Trace{Ins: l.ins, Ops: []api.Op{plain()}, Back: slices.Repeat([]api.Src{num(0)}, len(l.ins))}
		if l.right {
			wantFault(t, x, -1)
		} else {
			wantFault(t, x, 1)
		}
	}
	for _, n := range far {
		for at := range 3 {
			x := host(plain())
			x.Ins[at] = int(n)
			wantFault(t, x, end)
		}
	}
}

// TestAllInputs: there are at most 1000, for more can't rise.
func TestAllInputs(t *testing.T) { // P16.1
	x := api.Trace{Ops: []api.Op{{Op: api.InsSetRoot, Args: []api.Src{v(999)}, Snap: -1}}}
	for n := range 1000 {
		x.Ins, x.Back = append(x.Ins, n), append(x.Back, v(999-n))
	}
	wantFault(t, x, -1)
	x.Back[0] = v(1000)
	wantFault(t, x, 1)
	x.Back[0] = v(0)
	for _, more := range []int{999, 1000, 0, -1} {
		y := copied(x)
		y.Ins, y.Back = append(y.Ins, more), append(y.Back, num(0))
		wantFault(t, y, 1)
	}
}

func TestHowManyBack(t *testing.T) { // P16.1
	for ins := range 5 {
		for back := range 7 {
			x := api.Trace{Ops: []api.Op{plain()}, Back: slices.Repeat([]api.Src{num(0)}, back)}
			for n := range ins {
				x.Ins = append(x.Ins, 10*n)
			}
			if back == ins {
				wantFault(t, x, -1)
			} else {
				wantFault(t, x, 1)
			}
		}
	}
}

func TestBack(t *testing.T) { // P16.1
	for at := range 3 {
		with := func(s api.Src, right bool) {
			t.Helper()
			x := host(sample(api.InsEq))
			x.Back[at] = s
			if right {
				wantFault(t, x, -1)
			} else {
				wantFault(t, x, end)
			}
		}
		for _, s := range constants {
			with(s, true)
		}
		for _, s := range badSources {
			with(s, false)
		}
		// v4 is made by none; of all others up to the last one each may be taken.
		for n := range 12 {
			with(v(n), n < 7 && n != 4)
		}
		for _, n := range far {
			with(v(int(n)), false)
		}
		for n := -1; n < 6; n++ {
			with(w(n), false)
		}
	}
}

// spoil is a way to make host wrong: at which operation, end for something else; ahead, whether that comes ahead of operations.
type spoil struct {
	name  string
	at    int
	ahead bool
	do    func(x *api.Trace)
}

func spoils() []spoil {
	l := []spoil{
		{"up", end, true, func(x *api.Trace) { x.Links[3].Up = 3 }},
		{"regs", end, true, func(x *api.Trace) { x.Links[2].Regs = make([]api.Src, 1001) }},
		{"register", end, true, func(x *api.Trace) { x.Links[3].Regs = []api.Src{{Kind: 3}} }},
		{"register's virt", end, true, func(x *api.Trace) { x.Links[1].Regs = []api.Src{w(4)} }},
		{"rec", end, true, func(x *api.Trace) { x.Virts[0].Rec = -1 }},
		{"cells", end, true, func(x *api.Trace) { x.Virts[1].Cells = make([]api.Src, 1001) }},
		{"cell", end, true, func(x *api.Trace) { x.Virts[2].Cells = []api.Src{{N: 1}} }},
		{"greens", end, false, func(x *api.Trace) { x.Key.N = 5 }},
		{"input", end, false, func(x *api.Trace) { x.Ins[0] = -1 }},
		{"back", end, false, func(x *api.Trace) { x.Back[0] = v(4) }},
		{"fewer back", end, false, func(x *api.Trace) { x.Back = x.Back[:1] }},
	}
	for at := range end {
		op := func(name string, do func(o *api.Op)) {
			l = append(l, spoil{name, at, false, func(x *api.Trace) { do(&x.Ops[at]) }})
		}
		op("op", func(o *api.Op) { o.Op = 0 })
		op("arguments", func(o *api.Op) { o.Args = append(o.Args, num(0)) })
		op("k", func(o *api.Op) { o.K = -1 })
		op("c", func(o *api.Op) { o.C = 1001 })
		op("snap", func(o *api.Op) { o.Snap = 4 })
		op("below", func(o *api.Op) { o.Snap = -2 })
	}
	// Operation 1 may not take what link 2 takes of operation 1's own or of later ones.
	l = append(l, spoil{"taken by a link", 1, false, func(x *api.Trace) {
		x.Ops[1].Snap, x.Links[0].Regs = 2, []api.Src{v(5)}
	}})
	return l
}

// TestSeveralFaults has each two of these faults at once: links' and Virts' come first, then the first operation's, then what else is wrong.
func TestSeveralFaults(t *testing.T) { // P16.1
	wantFault(t, host(sample(api.InsArr)), -1)
	for _, first := range spoils() {
		x := host(sample(api.InsArr))
		first.do(&x)
		wantFault(t, x, first.at)
		for _, second := range spoils() {
			y := copied(x)
			second.do(&y)
			want := min(first.at, second.at)
			if first.ahead || second.ahead {
				want = end
			}
			if at, e := Check(y); at != want || e != api.ErrTrace {
				t.Error(first.name, second.name, at, e, want)
			}
		}
	}
}

// TestSeveralOperationsWrong tells the first one, whatever the faults are.
func TestSeveralOperationsWrong(t *testing.T) { // P16.1
	x := api.Trace{Ins: []int{0, 1, 2}, Back: []api.Src{v(0), v(1), v(2)}}
	for _, l := range lines {
		o := sample(l.op)
		o.Args = slices.Repeat([]api.Src{num(0)}, len(o.Args))
		x.Ops = append(x.Ops, o)
	}
	wantFault(t, x, -1)
	for first := range x.Ops {
		for second := first + 1; second < len(x.Ops); second++ {
			y := copied(x)
			y.Ops[second].Op = -1
			wantFault(t, y, second)
			y.Ops[first].K = -1
			wantFault(t, y, first)
			y.Back = nil
			wantFault(t, y, first)
			y.Virts = []api.Virt{{Rec: -1}}
			wantFault(t, y, len(x.Ops))
		}
	}
}

// TestWrongInputsAreCounted: operations are looked at with as many inputs as there are, also if these are wrong.
func TestWrongInputsAreCounted(t *testing.T) { // P16.1
	x := host(sample(api.InsSetElem))
	x.Ins = []int{5, 5, -7}
	wantFault(t, x, end)
	x.Ins = []int{5, 5}
	// v3 is now what operation 1 makes: nothing.
	wantFault(t, x, here)
}
