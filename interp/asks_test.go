package interp

import (
	"math"
	"slices"
	"testing"

	"swath/api"
)

// asked has a machine asked for something by a trace, and wants nothing to change but what is put into the result that is handed to change.
func asked(t *testing.T, m *Machine, what string, ask func(), change func(r *api.Result)) {
	t.Helper()
	want, frames, h, root, look := m.Result(), m.Frames(), things(m.Heap()), m.Heap().Root(), looks(m)
	ask()
	change(&want)
	if got := standing(m); got != told(frames, want, root, h) || !sameResult(m.Result(), want) {
		t.Fatalf("%s:\n%s\ninstead of\n%s\n%v", what, got, told(frames, want, root, h), want)
	}
	if got := looks(m); got != look {
		t.Fatal(what, got, "instead of", look)
	}
}

func nothing(*api.Result) {}

// asking is a machine in the midst of a run, and one at its end, with two steps left.
func asking(t *testing.T, end bool) *Machine {
	t.Helper()
	m := made(t, sampleRun(insStep, insLen(0, 0), insRet(0)), wide.fuel(5))
	for range 10 {
		next(t, m)
	}
	if end {
		wantTrap(t, m, api.TrapType)
	}
	return m
}

func TestStepOfATrace(t *testing.T) { // P13.5
	for _, end := range []bool{false, true} {
		m := asking(t, end)
		for n := range 2 {
			asked(t, m, "Step", func() {
				if !m.Step() {
					t.Fatal("step", n)
				}
			}, func(r *api.Result) { r.Steps++ })
		}
		for range 3 {
			asked(t, m, "Step behind the last one", func() {
				if m.Step() {
					t.Fatal("there are more")
				}
			}, nothing)
		}
		if _, is := m.Here(); is == end {
			t.Fatal("the run was ended by it, or begun anew")
		}
	}
	for _, fuel := range []int{0, -1, math.MinInt} {
		if made(t, hall(), wide.fuel(fuel)).Step() {
			t.Error(fuel)
		}
	}
	// Steps of a trace and of instructions are of one limit.
	m := made(t, mainOf(1, insStep, insStep, insRet(0)), wide.fuel(2))
	if !m.Step() {
		t.Fatal("no step")
	}
	next(t, m)
	wantEnd(t, m, api.EndFuel, num(0), 0)
	if m.Step() || m.Result().Steps != 2 {
		t.Error(m.Result())
	}
}

func TestInOfATrace(t *testing.T) { // P13.5
	for _, end := range []bool{false, true} {
		m := asking(t, end)
		asked(t, m, "In", func() {
			if v := m.In(); v != num(-21) {
				t.Fatal(v)
			}
		}, func(r *api.Result) { r.Read++ })
		for range 3 {
			asked(t, m, "In behind the end", func() {
				if v := m.In(); v != null {
					t.Fatal(v)
				}
			}, nothing)
		}
	}
	if v := made(t, hall(), given{}).In(); v != null {
		t.Error(v)
	}
	// A trace and instructions read one tape.
	m := made(t, mainOf(1, insIn(0), insOut(0), insRet(0)), wide)
	if v := m.In(); v != num(20) {
		t.Error(v)
	}
	next(t, m)
	if m.Reg(0) != num(-21) || m.In() != null {
		t.Error(m.Frames())
	}
}

func TestOutOfATrace(t *testing.T) { // P13.5
	for _, end := range []bool{false, true} {
		m := asking(t, end)
		for _, n := range edges {
			asked(t, m, "Out", func() {
				if trap := m.Out(num(n)); trap != 0 {
					t.Fatal(n, trap)
				}
			}, func(r *api.Result) { r.Out = append(slices.Clone(r.Out), n) })
		}
		for _, v := range append([]api.Value{null, ref(0), ref(1)}, odd...) {
			asked(t, m, "Out of no number", func() {
				if trap := m.Out(v); trap != api.TrapType {
					t.Fatal(v, trap)
				}
			}, nothing)
		}
	}
}

func TestImgOfATrace(t *testing.T) { // P13.5
	for _, end := range []bool{false, true} {
		m := asking(t, end)
		want := func(at, v api.Value, trap int) {
			t.Helper()
			asked(t, m, "Img", func() {
				if got, e := m.Img(at); got != v || e != trap {
					t.Fatal(at, got, e)
				}
			}, nothing)
		}
		for n, x := range wide.image {
			want(num(int64(n)), num(x), 0)
		}
		for _, n := range []int64{3, 4, -1, 1 << 32, -1 << 32, math.MaxInt64, math.MinInt64} {
			want(num(n), num(0), api.TrapIndex)
		}
		for _, v := range append([]api.Value{null, ref(0), ref(1)}, odd...) {
			want(v, num(0), api.TrapType)
		}
	}
	if v, trap := made(t, hall(), given{}).Img(num(0)); v != num(0) || trap != api.TrapIndex {
		t.Error(v, trap)
	}
}

// TestAskedWithoutSteps: what a trace asks is answered when no step is left.
func TestAskedWithoutSteps(t *testing.T) { // P13.5
	m := made(t, hall(), wide.fuel(0))
	if m.Step() || m.In() != num(20) || m.Out(num(4)) != 0 || m.Heap().Charge(3) != 0 {
		t.Error(m.Result())
	}
	if v, trap := m.Img(num(1)); v != num(-8) || trap != 0 {
		t.Error(v, trap)
	}
	if r := m.Result(); !sameResult(r, api.Result{End: api.EndFuel, Read: 1, Out: []int64{4}, Cells: 3}) {
		t.Error(r)
	}
}

// TestHeap: the heap that is handed out is the run's own.
func TestHeap(t *testing.T) { // P13.5
	m := made(t, mainOf(3, insRoot(0), insGet(1, 0, 0, 6), insNew(2, 1, 0), insRet(2)), wide.cells(5))
	h := m.Heap()
	if h == nil || m.Heap() != h || h.Used() != 0 || h.Root() != num(0) {
		t.Fatal(h)
	}
	v := h.Lay(6, nums(42))
	h.SetRoot(v)
	if h.Charge(3) != 0 {
		t.Fatal("no cells")
	}
	for range 3 {
		next(t, m)
	}
	if m.Reg(0) != v || m.Reg(1) != num(42) || m.Reg(2) != ref(1) || h.Used() != 5 || m.Result().Cells != 5 || h.Charge(1) != api.TrapCells {
		t.Error(m.Frames(), h.Used())
	}
	if m.Next() != api.Ended || m.Heap() != h {
		t.Error("another heap at the end")
	}
	r, g, _ := Run(mainOf(1, insNew(0, 2, 0), insRet(0)), nil, nil, wide.lim)
	if o, is := g.Obj(r.Value); !is || len(o.Cells) != 2 || g.Used() != r.Cells {
		t.Error(r, o)
	}
}
