package interp

import (
	"math"
	"slices"
	"testing"

	"swath/api"
)

func TestExample(t *testing.T) { // P13.1
	c := mainOf(1, insNum(0, 7), insOut(0), insRet(0))
	wantResult(t, c, wide, api.Result{End: api.EndHalt, Value: num(7), Out: []int64{7}})
	// Neither steps nor cells nor any number given are wanted.
	wantResult(t, c, given{}, api.Result{End: api.EndHalt, Value: num(7), Out: []int64{7}})
	wantResult(t, c, given{lim: api.Limits{Fuel: math.MinInt, Depth: math.MinInt, Cells: math.MinInt}}, api.Result{End: api.EndHalt, Value: num(7), Out: []int64{7}})
}

func TestMainIsRun(t *testing.T) { // P13.1
	c := codeOf(function(0, 1, insNum(0, 1), insRet(0)), function(0, 2, insNum(1, 2), insRet(1)), function(0, 3, insNum(2, 3), insRet(2)))
	for n := range c.Funcs {
		c.Main = n
		wantResult(t, c, wide, halted(num(int64(n+1))))
		m := made(t, c, wide)
		if l := m.Frames(); len(l) != 1 || l[0].Fn != n || l[0].Pc != 0 || l[0].Into != -1 || !slices.Equal(l[0].Regs, make([]api.Value, n+1)) {
			t.Error(n, l)
		}
	}
}

// TestRegistersBeginWithZero has a register that nobody has written.
func TestRegistersBeginWithZero(t *testing.T) { // P13.1, P13.2
	for r := range 3 {
		wantResult(t, mainOf(3, insRet(r)), wide, halted(num(0)))
	}
}

// sampleRun is code that puts out, reads, takes steps and cells, and ends with that instruction.
func sampleRun(last ...api.Ins) api.Code {
	return mainOf(3, append([]api.Ins{insStep, insIn(0), insOut(0), insNew(1, 2, 4), insSetRoot(1), insStep, insSize(2), insArr(2, 2), insPut(1, 2, 1, 4)}, last...)...)
}

// sampleResult is what there is of the sample ahead of its last instruction.
func sampleResult() api.Result { return api.Result{Out: []int64{20}, Read: 1, Steps: 2, Cells: 7} }

func TestEachEnd(t *testing.T) { // P13.1, P13.6
	for _, x := range []struct {
		last []api.Ins
		end  int
		v    api.Value
		trap int
	}{
		{[]api.Ins{insRet(0)}, api.EndHalt, num(20), 0}, {[]api.Ins{insRet(1)}, api.EndHalt, ref(0), 0}, {[]api.Ins{insStop(2)}, api.EndHalt, ref(1), 0}, {[]api.Ins{insNull(0), insStop(0)}, api.EndHalt, null, 0},
		{[]api.Ins{insBin(0, 1, 0, 1), insRet(0)}, api.EndTrap, num(0), api.TrapType}, {[]api.Ins{insElem(0, 2, 0), insRet(0)}, api.EndTrap, num(0), api.TrapIndex}, {[]api.Ins{insNull(0), insLen(0, 0), insRet(0)}, api.EndTrap, num(0), api.TrapNull},
		{[]api.Ins{insNum(1, 0), insBin(0, 0, 1, api.OpRem), insRet(0)}, api.EndTrap, num(0), api.TrapDiv}, {[]api.Ins{insArr(0, 0), insRet(0)}, api.EndTrap, num(0), api.TrapCells}, {[]api.Ins{insCall(0, 0), insRet(0)}, api.EndTrap, num(0), api.TrapDepth},
		{[]api.Ins{insStep, insRet(0)}, api.EndFuel, num(0), 0},
	} {
		want := sampleResult()
		want.End, want.Value, want.Trap = x.end, x.v, x.trap
		h := wantResult(t, sampleRun(x.last...), wide.fuel(2).depth(1).cells(27), want)
		if o, _ := h.Obj(h.Root()); h.Root() != ref(0) || h.Used() != 7 || o.Rec != 4 || !slices.Equal(o.Cells, []api.Value{num(0), ref(1)}) {
			t.Error(x, h.Root(), h.Used(), o)
		}
	}
}

// TestResultSoFar asks for the result ahead of each instruction.
func TestResultSoFar(t *testing.T) { // P13.6
	m := made(t, sampleRun(insRet(0)), wide)
	for n, want := range []api.Result{
		{}, {Steps: 1}, {Steps: 1, Read: 1}, {Steps: 1, Read: 1, Out: []int64{20}}, {Steps: 1, Read: 1, Out: []int64{20}, Cells: 3}, {Steps: 1, Read: 1, Out: []int64{20}, Cells: 3},
		{Steps: 2, Read: 1, Out: []int64{20}, Cells: 3}, {Steps: 2, Read: 1, Out: []int64{20}, Cells: 3}, sampleResult(), sampleResult(),
	} {
		want.End = api.EndFuel
		if r := m.Result(); !sameResult(r, want) {
			t.Error(n, r, want)
		}
		if n < 9 {
			next(t, m)
		}
	}
	want := sampleResult()
	want.Value = num(20)
	if m.Next() != api.Ended || !sameResult(m.Result(), want) || !sameResult(m.Result(), want) {
		t.Error(m.Result())
	}
}

// TestNextAtTheEnd does nothing behind each way to end, however often it is called.
func TestNextAtTheEnd(t *testing.T) { // P13.3
	// A jump comes round to a step that can't be taken.
	for _, last := range []api.Ins{insRet(0), insStop(0), insStep, insElem(0, 0, 0), insCall(0, 0), insJump(0)} {
		m := made(t, sampleRun(last, insJump(9)), wide.fuel(2).depth(1))
		for m.Next() == api.GoOn {
		}
		before, r := standing(m), m.Result()
		for range 5 {
			if m.Next() != api.Ended {
				t.Fatal(last, "the run goes on")
			}
		}
		if standing(m) != before || !sameResult(m.Result(), r) {
			t.Fatal(last, "something is done behind the end")
		}
	}
}

func TestFuel(t *testing.T) { // 13.1, P13.1
	c := mainOf(1, insStep, insOut(0), insStep, insOut(0), insStep, insOut(0), insRet(0))
	for _, fuel := range []int{math.MinInt, -1, 0, 1, 2, 3, 4, 1 << 40, math.MaxInt} {
		taken := max(0, min(3, fuel))
		want := api.Result{End: api.EndFuel, Steps: taken, Out: make([]int64, taken)}
		if fuel >= 3 {
			want.End = api.EndHalt
		}
		wantResult(t, c, wide.fuel(fuel), want)
	}
	m := made(t, c, wide.fuel(1))
	next(t, m)
	next(t, m)
	wantEnd(t, m, api.EndFuel, num(0), 0)
	if l := m.Frames(); l[0].Pc != 2 {
		t.Error("the step that can't be taken is gone behind", l)
	}
}

// TestTapes reads behind the end, and the image at its edges.
func TestTapes(t *testing.T) { // 13.1
	c := mainOf(3, insIn(0), insOut(0), insIn(1), insOut(1), insIn(2), insNull(0), insEq(0, 0, 2), insOut(0), insIn(2), insIn(2), insRet(2))
	wantResult(t, c, wide, api.Result{Value: null, Out: []int64{20, -21, 1}, Read: 2})
	wantResult(t, c, given{input: []int64{1, 2, 3, 4, 5, 6}}, api.Result{Value: num(5), Out: []int64{1, 2, 0}, Read: 5})
	wantResult(t, c, given{input: []int64{1}}, api.Result{End: api.EndTrap, Trap: api.TrapType, Out: []int64{1}, Read: 1})
	wantResult(t, c, given{}, stuck(api.TrapType))
	for _, image := range [][]int64{nil, {}, {4}, {4, 5}, edges} {
		size := int64(len(image))
		wantResult(t, mainOf(1, insSize(0), insRet(0)), given{image: image}, halted(num(size)))
		for _, at := range append([]int64{size - 1, size, size + 1}, edges...) {
			want := stuck(api.TrapIndex)
			if at >= 0 && at < size {
				want = halted(num(image[at]))
			}
			wantResult(t, mainOf(1, insNum(0, at), insImg(0, 0), insRet(0)), given{image: image}, want)
		}
	}
}

func TestRoot(t *testing.T) { // 13.1
	for _, v := range append(append(benchValues(), nums(edges...)...), odd...) {
		m := framed(t, mainOf(3, insSetRoot(0), insRoot(1), insRoot(2), insRet(1)), wide, api.Frame{Regs: []api.Value{v, num(1), num(2)}, Into: -1})
		for range 3 {
			next(t, m)
		}
		if m.Heap().Root() != v || m.Reg(0) != v || m.Reg(1) != v || m.Reg(2) != v {
			t.Error(v, m.Heap().Root(), m.Frames())
		}
	}
	wantResult(t, mainOf(1, insNull(0), insRoot(0), insRet(0)), wide, halted(num(0)))
}

func TestMergesAndPromotes(t *testing.T) { // 13.1
	c := mainOf(3, insNum(0, 3), insMerge(1), insMerge(0, 0, 1, 2, 0), insOut(0), insPromote(2, 0), insNum(1, 1), insBin(0, 2, 1, api.OpSub), insZero(0, 9), insJump(1), insPromote(1, 1), insRet(1))
	wantResult(t, c, given{}, api.Result{Value: num(1), Out: []int64{3, 2, 1}})
}
