package interp

import (
	"fmt"
	"math"
	"slices"
	"testing"

	"swath/api"
	"swath/arith"
	"swath/ir"
)

// benchRegs is how many registers the functions have in which instructions are done alone.
const benchRegs = 4

// bench is code in which an instruction stands alone, at place 1 of function 1, with an answer at 0 and at 2; function 2 can be called with as many arguments
// as it has registers. Main calls function 1.
func bench(i api.Ins) api.Code {
	main := function(0, 2, insCall(1, 1), insRet(1))
	alone := function(0, benchRegs, insStop(0), i, insStop(1), insStop(2))
	called := function(len(i.L), 5, insRet(0))
	if i.Op != api.InsCall {
		called = function(3, 5, insRet(0))
	}
	return codeOf(main, alone, called)
}

// benchThings are the things of a machine on the bench, ahead of the instruction.
func benchThings() []api.Obj {
	return []api.Obj{
		{Rec: 0, Cells: []api.Value{num(10), null, ref(1)}},
		{Rec: -1, Cells: []api.Value{num(20), ref(0), num(22)}},
		{Rec: 5, Cells: []api.Value{num(30)}},
		{Rec: 0},
		{Rec: -1},
	}
}

// onBench is a machine that is about to do an instruction with these registers, in the second frame.
func onBench(t testing.TB, i api.Ins, g given, regs ...api.Value) *Machine {
	t.Helper()
	c := bench(i)
	for len(regs) < benchRegs {
		regs = append(regs, num(int64(-100-len(regs))))
	}
	m := framed(t, c, g, api.Frame{Fn: 0, Pc: 1, Regs: []api.Value{num(-1), num(-2)}, Into: -1}, api.Frame{Fn: 1, Pc: 1, Regs: regs, Into: 1})
	for _, o := range benchThings() {
		m.Heap().Lay(o.Rec, o.Cells)
	}
	m.Heap().SetRoot(num(77))
	if m.Heap().Charge(9) != 0 || m.Out(num(5)) != 0 || m.In() != num(g.input[0]) || !m.Step() {
		t.Fatal("the bench isn't laid")
	}
	return m
}

// benchGiven is what machines on the bench are given.
var benchGiven = given{[]int64{7, -8, 1 << 40}, []int64{1, 20, -21}, api.Limits{Fuel: 3, Depth: 3, Cells: 100}}

// benchValues are values of every kind, for registers of a machine on the bench.
func benchValues() []api.Value {
	l := append(nums(0, 1, 2, 3, -1, math.MaxInt64, math.MinInt64), null)
	for n := range benchThings() {
		l = append(l, ref(int64(n)))
	}
	return append(l, odd...)
}

// wantBench wants an instruction to do just what the model says.
func wantBench(t testing.TB, i api.Ins, g given, regs ...api.Value) {
	t.Helper()
	m := onBench(t, i, g, regs...)
	want := takenOver(m, bench(i), g)
	wantNext(t, m, &want)
}

// benched are instructions of each number that reads at most two registers, with registers that differ and such that don't.
func benched() []api.Ins {
	l := []api.Ins{insNum(0, 0), insNum(3, math.MinInt64), insNull(1), insSize(2), insRoot(0), insIn(3), insStep, insMerge(0), insMerge(0, 0, 1, 3, 3), insJump(0), insJump(3), insJump(2),
		insOut(0), insSetRoot(1), insRet(0), insStop(1), insZero(0, 0), insZero(1, 3), insZero(0, 2), insCall(0, 2), insCall(3, 2, 0), insCall(1, 2, 0, 1), insCall(0, 2, 1, 0, 1), insCall(2, 2, 1, 1, 1, 0, 0)}
	for _, a := range []int{0, 1, 3} {
		l = append(l, insMove(a, 0), insMove(a, 1), insPromote(a, 0), insPromote(a, 1), insUn(a, 0, 13), insUn(a, 1, 14), insUn(a, 0, 15), insLen(a, 0), insArr(a, 0), insArr(a, 1), insImg(a, 0))
		l = append(l, insEq(a, 0, 1), insEq(a, 1, 0), insEq(a, 1, 1), insNe(a, 0, 1), insNe(a, 1, 0), insNe(a, 0, 0), insElem(a, 0, 1), insElem(a, 1, 0), insElem(a, 0, 0))
		for k := range int64(12) {
			l = append(l, insBin(a, 0, 1, k+1), insBin(a, 1, 0, k+1), insBin(a, 0, 0, k+1))
		}
		for _, c := range []int{0, 1, 2, 3, 1000} {
			for _, k := range []int64{0, 1, 5, 1000} {
				l = append(l, insGet(a, 0, c, k), insNew(a, c, k), insPut(a, 1-a/2, c, k))
			}
		}
	}
	return append(l, insPut(0, 1, 1, 5), insPut(1, 0, 2, 0), insSetElem(0, 1, 1), insSetElem(1, 0, 0), insSetElem(0, 0, 0), insSetElem(0, 1, 3))
}

// TestEachInstructionAlone has each instruction with values of every kind, in registers and beside.
func TestEachInstructionAlone(t *testing.T) { // 13.1, P13.3
	done := make([]int, api.InsPromote+1)
	values := benchValues()
	for _, i := range benched() {
		reads := ir.Reads(i)
		for _, v := range values {
			for n, w := range values {
				// Of registers that aren't read few values are enough.
				if n < 2 || slices.Contains(reads, 0) && slices.Contains(reads, 1) {
					wantBench(t, i, benchGiven, v, w)
					wantBench(t, i, benchGiven, w, v)
					done[i.Op]++
				}
			}
		}
	}
	for _, v := range values {
		for _, at := range values {
			wantBench(t, insSetElem(0, 1, 2), benchGiven, v, at, num(9))
			wantBench(t, insSetElem(2, 0, 1), benchGiven, at, null, v)
			wantBench(t, insSetElem(1, 2, 0), benchGiven, ref(1), v, at)
		}
	}
	for op := api.InsNum; op <= api.InsPromote; op++ {
		if done[op] == 0 {
			t.Error("instruction", op, "was not done")
		}
	}
}

// TestEachInstructionAtTheLimits has limits that are met, one by one.
func TestEachInstructionAtTheLimits(t *testing.T) { // 13.1
	for _, i := range benched() {
		for _, cells := range []int{9, 10, 11, 12, 13, 14} {
			wantBench(t, i, benchGiven.cells(cells), num(2), num(1))
			wantBench(t, i, benchGiven.cells(cells), num(0), num(3))
		}
		for _, fuel := range []int{1, 2, 3} {
			for _, depth := range []int{2, 3, 4} {
				wantBench(t, i, benchGiven.fuel(fuel).depth(depth), num(1), ref(1))
			}
		}
		wantBench(t, i, given{nil, []int64{1}, benchGiven.lim}, num(0), num(1))
		wantBench(t, i, given{[]int64{5}, []int64{1}, benchGiven.lim}, num(0), num(1))
	}
}

// alone is an instruction done with these registers: what stands in register A behind it, or its trap.
type alone struct {
	i    api.Ins
	regs []api.Value
	want api.Value
	trap int
}

func makes(i api.Ins, want api.Value, regs ...api.Value) alone { return alone{i, regs, want, 0} }
func traps(i api.Ins, trap int, regs ...api.Value) alone       { return alone{i, regs, api.Value{}, trap} }

// byHand are instructions with what chapters 9 and 13 say of them, by hand.
func byHand() []alone {
	return []alone{
		makes(insNum(0, 0), num(0)), makes(insNum(2, -5), num(-5)), makes(insNum(3, math.MaxInt64), num(math.MaxInt64)), makes(insNull(1), null),
		makes(insMove(0, 1), num(4), num(3), num(4)), makes(insMove(2, 0), null, null), makes(insMove(1, 1), ref(3), num(3), ref(3)), makes(insPromote(0, 1), ref(1), num(3), ref(1)), makes(insPromote(3, 0), num(5), num(5)),
		makes(insBin(2, 0, 1, api.OpSub), num(-2), num(3), num(5)), makes(insBin(0, 1, 0, api.OpSub), num(2), num(3), num(5)), makes(insBin(1, 1, 1, api.OpMul), num(25), num(3), num(5)),
		traps(insBin(2, 0, 1, api.OpDiv), api.TrapDiv, num(3), num(0)), traps(insBin(0, 0, 1, api.OpRem), api.TrapDiv, num(3), num(0)), makes(insBin(2, 0, 1, api.OpDiv), num(0), num(0), num(3)),
		traps(insBin(2, 0, 1, api.OpAdd), api.TrapType, null, num(1)), traps(insBin(2, 0, 1, api.OpAdd), api.TrapType, num(1), ref(0)), traps(insBin(2, 0, 1, api.OpDiv), api.TrapType, null, num(0)), traps(insBin(2, 0, 1, api.OpDiv), api.TrapType, num(0), null),
		makes(insUn(1, 0, api.OpNeg), num(-3), num(3)), makes(insUn(0, 0, api.OpNot), num(1), num(0)), makes(insUn(0, 0, api.OpNot), num(0), num(9)), makes(insUn(1, 0, api.OpFlip), num(-4), num(3)),
		traps(insUn(1, 0, api.OpNeg), api.TrapType, null), traps(insUn(1, 0, api.OpNot), api.TrapType, null), traps(insUn(1, 0, api.OpFlip), api.TrapType, ref(1)),
		makes(insEq(2, 0, 1), num(1), null, null), makes(insEq(2, 0, 1), num(0), null, num(0)), makes(insEq(2, 0, 1), num(1), ref(1), ref(1)), makes(insEq(2, 0, 1), num(0), ref(0), ref(3)), makes(insEq(0, 0, 1), num(0), ref(1), num(1)), makes(insEq(1, 0, 1), num(1), num(6), num(6)),
		makes(insNe(2, 0, 1), num(0), null, null), makes(insNe(2, 0, 1), num(1), null, num(0)), makes(insNe(2, 0, 1), num(0), ref(1), ref(1)), makes(insNe(2, 0, 1), num(1), ref(0), ref(3)), makes(insNe(0, 0, 1), num(1), ref(1), num(1)), makes(insNe(1, 0, 1), num(0), num(6), num(6)),
		makes(insGet(1, 0, 0, 0), num(10), ref(0)), makes(insGet(0, 0, 1, 0), null, ref(0)), makes(insGet(1, 0, 2, 0), ref(1), ref(0)), makes(insGet(1, 0, 0, 5), num(30), ref(2)), traps(insGet(1, 0, 3, 0), api.TrapType, ref(0)), traps(insGet(1, 0, 0, 1), api.TrapType, ref(0)),
		traps(insGet(1, 0, 0, 0), api.TrapType, ref(3)), traps(insGet(1, 0, 0, 0), api.TrapType, ref(1)), traps(insGet(1, 0, 0, 0), api.TrapNull, null), traps(insGet(1, 0, 0, 0), api.TrapType, num(0)), traps(insGet(1, 0, 0, 0), api.TrapType, ref(5)),
		makes(insElem(2, 0, 1), num(20), ref(1), num(0)), makes(insElem(0, 0, 1), ref(0), ref(1), num(1)), makes(insElem(1, 0, 1), num(22), ref(1), num(2)), traps(insElem(2, 0, 1), api.TrapIndex, ref(1), num(3)), traps(insElem(2, 0, 1), api.TrapIndex, ref(1), num(-1)),
		traps(insElem(2, 0, 1), api.TrapIndex, ref(4), num(0)), traps(insElem(2, 0, 1), api.TrapNull, null, null), traps(insElem(2, 0, 1), api.TrapType, ref(1), null), traps(insElem(2, 0, 1), api.TrapType, ref(0), num(0)), traps(insElem(2, 0, 1), api.TrapType, num(1), num(0)),
		makes(insLen(2, 0), num(3), ref(1)), makes(insLen(0, 0), num(0), ref(4)), traps(insLen(2, 0), api.TrapNull, null), traps(insLen(2, 0), api.TrapType, ref(0)), traps(insLen(2, 0), api.TrapType, num(1)),
		makes(insNew(2, 3, 7), ref(5)), makes(insNew(0, 0, 0), ref(5)), traps(insNew(2, 91, 0), api.TrapCells), makes(insNew(2, 90, 0), ref(5)),
		makes(insArr(2, 0), ref(5), num(3)), makes(insArr(0, 0), ref(5), num(0)), makes(insArr(0, 0), ref(5), num(90)), traps(insArr(2, 0), api.TrapCells, num(91)), traps(insArr(2, 0), api.TrapIndex, num(-1)), traps(insArr(2, 0), api.TrapType, null), traps(insArr(2, 0), api.TrapType, ref(1)), traps(insArr(2, 0), api.TrapCells, num(math.MaxInt64)),
		makes(insIn(2), num(20)), makes(insSize(1), num(3)), makes(insRoot(0), num(77)), makes(insImg(1, 0), num(7), num(0)), makes(insImg(0, 0), num(1<<40), num(2)), traps(insImg(1, 0), api.TrapIndex, num(3)), traps(insImg(1, 0), api.TrapIndex, num(-1)), traps(insImg(1, 0), api.TrapIndex, num(1<<32)),
		traps(insImg(1, 0), api.TrapType, null), traps(insImg(1, 0), api.TrapType, ref(0)), traps(insOut(0), api.TrapType, null), traps(insOut(0), api.TrapType, ref(0)), traps(insZero(0, 3), api.TrapType, null), traps(insZero(0, 3), api.TrapType, ref(0)), traps(insZero(0, 3), api.TrapType, api.Value{Kind: 3}),
		traps(insPut(0, 1, 0, 0), api.TrapNull, null, num(1)), traps(insPut(0, 1, 0, 0), api.TrapType, num(0), num(1)), traps(insPut(0, 1, 0, 0), api.TrapType, ref(1), num(1)), traps(insPut(0, 1, 3, 0), api.TrapType, ref(0), num(1)), traps(insPut(0, 1, 0, 5), api.TrapType, ref(0), num(1)),
		traps(insSetElem(0, 1, 2), api.TrapNull, null, num(0)), traps(insSetElem(0, 1, 2), api.TrapType, ref(0), num(0)), traps(insSetElem(0, 1, 2), api.TrapType, ref(1), null), traps(insSetElem(0, 1, 2), api.TrapIndex, ref(1), num(3)), traps(insSetElem(0, 1, 2), api.TrapIndex, ref(4), num(0)),
	}
}

func TestInstructionsByHand(t *testing.T) { // 13.1
	for n, x := range byHand() {
		m := onBench(t, x.i, benchGiven, x.regs...)
		if x.trap != 0 {
			wantTrap(t, m, x.trap)
			continue
		}
		before := m.Frames()
		next(t, m)
		after := m.Frames()
		before[1].Pc, before[1].Regs[x.i.A] = 2, x.want
		if fmt.Sprint(before) != fmt.Sprint(after) {
			t.Error(n, x, after, "instead of", before)
		}
	}
}

// TestWhatIsLaidDown has those instructions that write no register.
func TestWhatIsLaidDown(t *testing.T) { // 13.1
	m := onBench(t, insPut(0, 1, 2, 0), benchGiven, ref(0), null)
	next(t, m)
	if o, _ := m.Heap().Obj(ref(0)); !slices.Equal(o.Cells, []api.Value{num(10), null, null}) {
		t.Error(o)
	}
	m = onBench(t, insSetElem(0, 1, 2), benchGiven, ref(1), num(2), ref(3))
	next(t, m)
	if o, _ := m.Heap().Obj(ref(1)); !slices.Equal(o.Cells, []api.Value{num(20), ref(0), ref(3)}) {
		t.Error(o)
	}
	m = onBench(t, insSetRoot(1), benchGiven, num(1), ref(2))
	next(t, m)
	if m.Heap().Root() != ref(2) {
		t.Error(m.Heap().Root())
	}
	m = onBench(t, insOut(1), benchGiven, num(1), num(math.MinInt64))
	next(t, m)
	if r := m.Result(); !slices.Equal(r.Out, []int64{5, math.MinInt64}) {
		t.Error(r)
	}
	m = onBench(t, insStep, benchGiven)
	next(t, m)
	if r := m.Result(); r.Steps != 2 {
		t.Error(r)
	}
	m = onBench(t, insIn(0), benchGiven)
	next(t, m)
	if r := m.Result(); r.Read != 2 || m.In() != num(-21) || m.In() != null {
		t.Error(r)
	}
	m = onBench(t, insNew(3, 3, 7), benchGiven)
	next(t, m)
	if o, is := m.Heap().Obj(ref(5)); !is || o.Rec != 7 || !slices.Equal(o.Cells, nums(0, 0, 0)) || m.Result().Cells != 13 {
		t.Error(o, m.Result())
	}
	m = onBench(t, insArr(3, 0), benchGiven, num(2))
	next(t, m)
	if o, is := m.Heap().Obj(ref(5)); !is || o.Rec != -1 || !slices.Equal(o.Cells, nums(0, 0)) || m.Result().Cells != 12 {
		t.Error(o, m.Result())
	}
}

// TestNothingElse: merges change nothing but the place, jumps and zero nothing but that they go elsewhere.
func TestNothingElse(t *testing.T) { // 13.1
	for _, x := range []struct {
		i  api.Ins
		v  api.Value
		pc int
	}{
		{insMerge(0), num(0), 2}, {insMerge(0, 0, 1, 2, 3), null, 2}, {insJump(0), null, 0}, {insJump(3), null, 3}, {insJump(2), null, 2},
		{insZero(0, 3), num(0), 3}, {insZero(0, 0), num(0), 0}, {insZero(0, 2), num(0), 2}, {insZero(0, 3), num(1), 2}, {insZero(0, 0), num(-1), 2}, {insZero(0, 3), num(1 << 32), 2}, {insZero(0, 3), num(math.MinInt64), 2},
	} {
		m := onBench(t, x.i, benchGiven, x.v)
		before := m.Frames()
		next(t, m)
		before[1].Pc = x.pc
		if after := m.Frames(); fmt.Sprint(before) != fmt.Sprint(after) {
			t.Error(x, after, "instead of", before)
		}
		if r := m.Result(); r.Steps != 1 || r.Read != 1 || r.Cells != 9 || len(r.Out) != 1 || m.Heap().Root() != num(77) || fmt.Sprint(things(m.Heap())) != fmt.Sprint(benchThings()) {
			t.Error(x, r)
		}
	}
}

func TestEachOperation(t *testing.T) { // 13.1
	for op := api.OpAdd; op <= api.OpFlip; op++ {
		for _, a := range edges {
			for _, b := range edges {
				i := insBin(2, 0, 1, int64(op))
				n, trap := arith.Do(op, a, b)
				if arith.Unary(op) {
					// What stands in another register counts for nothing.
					i = insUn(2, 0, int64(op))
				}
				m := onBench(t, i, benchGiven, num(a), num(b))
				if trap != 0 {
					wantTrap(t, m, trap)
					continue
				}
				next(t, m)
				if m.Reg(2) != num(n) || m.Reg(0) != num(a) || m.Reg(1) != num(b) {
					t.Fatal(op, a, b, m.Frames())
				}
			}
		}
		for _, v := range append([]api.Value{null, ref(0), ref(1)}, odd...) {
			for _, b := range []api.Value{num(0), num(3), v} {
				if arith.Unary(op) {
					wantTrap(t, onBench(t, insUn(2, 0, int64(op)), benchGiven, v, b), api.TrapType)
					continue
				}
				wantTrap(t, onBench(t, insBin(2, 0, 1, int64(op)), benchGiven, v, b), api.TrapType)
				wantTrap(t, onBench(t, insBin(2, 1, 0, int64(op)), benchGiven, v, b), api.TrapType)
			}
		}
	}
}
