package interp

import (
	"fmt"
	"math"
	"testing"

	"swath/api"
)

// TestArguments: the arguments stand first in the new frame, the number 0 in all other registers, whatever calls stood there ahead of it.
func TestArguments(t *testing.T) { // 13.1
	main := function(0, 4, insNum(0, 10), insNull(1), insNew(2, 0, 0), insCall(3, 1, 2, 0, 0, 1), insCall(1, 1, 3, 3, 2, 0), insRet(1))
	f := function(4, 7, insNum(6, 99), insNull(5), insNull(4), insNum(0, 98), insRet(6))
	m := made(t, codeOf(main, f), wide)
	for range 4 {
		next(t, m)
	}
	want := []api.Frame{
		{Fn: 0, Pc: 4, Regs: []api.Value{num(10), null, ref(0), num(0)}, Into: -1},
		{Fn: 1, Pc: 0, Regs: []api.Value{ref(0), num(10), num(10), null, num(0), num(0), num(0)}, Into: 3},
	}
	if l := m.Frames(); fmt.Sprint(l) != fmt.Sprint(want) {
		t.Fatal(l, "instead of", want)
	}
	for range 6 {
		next(t, m)
	}
	want = []api.Frame{
		{Fn: 0, Pc: 5, Regs: []api.Value{num(10), null, ref(0), num(99)}, Into: -1},
		{Fn: 1, Pc: 0, Regs: []api.Value{num(99), num(99), ref(0), num(10), num(0), num(0), num(0)}, Into: 1},
	}
	if l := m.Frames(); fmt.Sprint(l) != fmt.Sprint(want) {
		t.Fatal(l, "instead of", want)
	}
	for range 5 {
		next(t, m)
	}
	if l := m.Frames(); fmt.Sprint(l) != fmt.Sprint([]api.Frame{{Fn: 0, Pc: 5, Regs: []api.Value{num(10), num(99), ref(0), num(99)}, Into: -1}}) {
		t.Fatal(l)
	}
}

// TestCallWithoutRegisters has a function of no registers, which can't answer.
func TestCallWithoutRegisters(t *testing.T) { // 13.1
	c := codeOf(function(0, 0, insStep, insJump(0)))
	wantResult(t, c, wide.fuel(5), api.Result{End: api.EndFuel, Steps: 5})
	c = codeOf(function(0, 1, insCall(0, 1), insRet(0)), function(0, 0, insMerge(0), insStep, insJump(1)))
	wantResult(t, c, wide.fuel(5), api.Result{End: api.EndFuel, Steps: 5})
}

// TestRetIntoEach has an answer of each kind laid into each register, and nothing else changed.
func TestRetIntoEach(t *testing.T) { // 13.1
	for into := range 4 {
		c := codeOf(function(0, 4, insCall(into, 1), insRet(0)), function(0, 2, insRet(1)))
		for _, v := range append([]api.Value{num(5), null, ref(0)}, odd...) {
			mine := []api.Value{num(11), null, ref(7), num(14)}
			m := framed(t, c, wide, api.Frame{Regs: mine, Into: -1})
			next(t, m)
			l := m.Frames()
			if len(l) != 2 || l[1].Into != into || l[0].Pc != 1 || fmt.Sprint(l[0].Regs) != fmt.Sprint(mine) {
				t.Fatal(into, l)
			}
			l[1].Regs[1] = v
			if e := m.SetFrames(l); e != api.OK {
				t.Fatal(e)
			}
			next(t, m)
			mine[into] = v
			if l := m.Frames(); len(l) != 1 || l[0].Pc != 1 || l[0].Fn != 0 || l[0].Into != -1 || fmt.Sprint(l[0].Regs) != fmt.Sprint(mine) {
				t.Fatal(into, v, l)
			}
		}
	}
}

// TestRetOfTheFirst leaves no frame, of whatever function the first one is.
func TestRetOfTheFirst(t *testing.T) { // 13.1, P13.4
	for _, v := range append([]api.Value{num(5), null, ref(0)}, odd...) {
		c := codeOf(function(0, 1, insRet(0)), function(2, 3, insRet(0), insRet(2)))
		m := framed(t, c, wide, api.Frame{Fn: 1, Pc: 1, Regs: []api.Value{num(1), num(2), v}, Into: -1})
		if m.Next() != api.Ended || len(m.Frames()) != 0 || !sameResult(m.Result(), halted(v)) || m.Reg(0) != num(0) || m.Reg(2) != num(0) {
			t.Fatal(v, m.Frames(), m.Result())
		}
	}
}

// TestStopWithinCalls leaves the calls as they stand, the last one at the stop.
func TestStopWithinCalls(t *testing.T) { // 13.1
	// f(n): n = n - 1; if n { f(n); out n; } stop n + 4.
	f := function(1, 2, insNum(1, 1), insBin(0, 0, 1, api.OpSub), insZero(0, 5), insCall(0, 1, 0), insOut(0), insNum(1, 4), insBin(0, 0, 1, api.OpAdd), insStop(0))
	for calls := range 5 {
		c := codeOf(function(0, 1, insNum(0, int64(calls+1)), insCall(0, 1, 0), insOut(0), insRet(0)), f)
		wantResult(t, c, wide, halted(num(4)))
		m := made(t, c, wide)
		for i, _ := m.Here(); i.Op != api.InsStop; i, _ = m.Here() {
			next(t, m)
		}
		wantEnd(t, m, api.EndHalt, num(4), 0)
		l := m.Frames()
		if len(l) != calls+2 || fmt.Sprint(l[0]) != fmt.Sprint(api.Frame{Fn: 0, Pc: 2, Regs: nums(int64(calls + 1)), Into: -1}) {
			t.Fatal(calls, l)
		}
		if last := l[calls+1]; fmt.Sprint(last) != fmt.Sprint(api.Frame{Fn: 1, Pc: 7, Regs: nums(4, 4), Into: 0}) {
			t.Fatal(calls, last)
		}
	}
	for _, v := range append([]api.Value{num(5), null, ref(0)}, odd...) {
		wantEnd(t, framed(t, mainOf(2, insStop(1)), wide, api.Frame{Regs: []api.Value{num(1), v}, Into: -1}), api.EndHalt, v, 0)
	}
}

// deeper is code whose run has calls within one another up to as many as it is told by the input.
func deeper() api.Code {
	main := function(0, 2, insIn(0), insCall(1, 1, 0), insRet(1))
	f := function(1, 3, insNum(1, 1), insBin(0, 0, 1, api.OpSub), insZero(0, 5), insCall(2, 1, 0), insBin(1, 1, 2, api.OpAdd), insRet(1))
	return codeOf(main, f)
}

// TestDepth has as many calls as may stand, and one more.
func TestDepth(t *testing.T) { // 13.1, P13.4
	for _, x := range []struct{ depth, may int }{{math.MinInt, 1}, {-1, 1}, {0, 1}, {1, 1}, {2, 2}, {3, 3}, {50, 50}, {999, 999}, {1000, 1000}, {1001, 1000}, {math.MaxInt, 1000}} {
		g := given{lim: api.Limits{Depth: x.depth}}
		if d := made(t, deeper(), g).Depth(); d != x.may {
			t.Error(x, d)
		}
		for _, calls := range []int{1, 2, 3, 49, 50, 51, 998, 999, 1000} {
			g.input = []int64{int64(calls)}
			want := api.Result{Value: num(int64(calls)), Read: 1}
			if calls+1 > x.may {
				want = api.Result{End: api.EndTrap, Trap: api.TrapDepth, Read: 1}
			}
			wantResult(t, deeper(), g, want)
		}
	}
}

// TestTooDeepChangesNothing has the call that can't be taken.
func TestTooDeepChangesNothing(t *testing.T) { // 13.1
	for _, depth := range []int{1, 2, 3, 1000} {
		m := made(t, deeper(), given{input: []int64{5000}, lim: api.Limits{Depth: depth}})
		for i, _ := m.Here(); i.Op != api.InsCall || len(m.Frames()) < depth; i, _ = m.Here() {
			next(t, m)
		}
		wantTrap(t, m, api.TrapDepth)
		if l := m.Frames(); len(l) != depth || l[depth-1].Pc != []int{3, 1}[max(0, 2-depth)] {
			t.Error(depth, l[len(l)-1])
		}
	}
}

// TestFramesAreTheirOwn: what a call does to its registers is nobody else's.
func TestFramesAreTheirOwn(t *testing.T) { // 13.1
	// f(n): m = n * 10; if n { f(n - 1) }; out n, m.
	f := function(1, 5, insNum(1, 10), insBin(2, 0, 1, 3), insZero(0, 6), insNum(1, 1), insBin(3, 0, 1, 2), insCall(4, 1, 3), insOut(0), insOut(2), insNum(0, 7), insRet(0))
	c := codeOf(function(0, 1, insNum(0, 2), insCall(0, 1, 0), insRet(0)), f)
	wantResult(t, c, wide, api.Result{Value: num(7), Out: []int64{0, 0, 1, 10, 2, 20}})
}

// TestFibonacci has calls to and fro, so that frames stand where others stood.
func TestFibonacci(t *testing.T) { // 13.1
	f := function(1, 4, insNum(1, 2), insBin(1, 0, 1, api.OpLt), insZero(1, 4), insRet(0), insNum(1, 1), insBin(2, 0, 1, 2), insCall(2, 1, 2), insNum(1, 2), insBin(3, 0, 1, 2), insCall(3, 1, 3), insBin(0, 2, 3, 1), insRet(0))
	c := codeOf(function(0, 1, insIn(0), insCall(0, 1, 0), insRet(0)), f)
	for n, want := range []int64{0, 1, 1, 2, 3, 5, 8, 13, 21, 34, 55, 89} {
		wantResult(t, c, given{input: []int64{int64(n)}, lim: api.Limits{Depth: 30}}, api.Result{Value: num(want), Read: 1})
	}
}
