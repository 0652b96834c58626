package interp

import (
	"testing"

	"swath/api"
)

// bound is how many instructions may be done since the last step.
const bound = 1000000

// straight is code that does so many instructions without a step, ahead of those behind: as many moves as it takes, then a loop.
// It has a counter in register 0, its step in 1, and comes to the place behind it with just that many done.
func straight(count int, ahead []api.Ins, behind ...api.Ins) api.Code {
	// Two instructions lay the numbers down, four make a turn, one leaves the loop.
	turns := (count - 3) / 4
	code := append([]api.Ins{}, ahead...)
	for range count - 3 - 4*turns {
		code = append(code, insMove(2, 2))
	}
	code = append(code, insNum(0, int64(turns)), insNum(1, 1))
	at := int64(len(code))
	code = append(code, insZero(0, at+4), insBin(0, 0, 1, api.OpSub), insMerge(0, 0), insJump(at))
	return mainOf(3, append(code, behind...)...)
}

// TestStraight: the code that the tests of this file use does as many instructions as it says.
func TestStraight(t *testing.T) {
	for count := 3; count < 60; count++ {
		m := made(t, straight(count, nil, insRet(2)), wide)
		for range count {
			next(t, m)
		}
		if i, is := m.Here(); !is || i.Op != api.InsRet {
			t.Fatal(count, i)
		}
	}
}

// TestIdleFromTheBeginning has as many instructions as may be, and one more.
func TestIdleFromTheBeginning(t *testing.T) { // 13.1
	fuelled := api.Result{End: api.EndFuel}
	for _, last := range []api.Ins{insRet(2), insStop(2)} {
		wantResult(t, straight(bound-2, nil, last), wide, halted(num(0)))
		wantResult(t, straight(bound-1, nil, last), wide, halted(num(0)))
		wantResult(t, straight(bound, nil, last), wide, fuelled)
		wantResult(t, straight(bound+1, nil, last), wide, fuelled)
	}
	// A trap counts as any other instruction, and so does the step that would be taken.
	wantResult(t, straight(bound-1, nil, insNull(2), insRet(2)), wide, fuelled)
	wantResult(t, straight(bound-1, nil, insLen(2, 2), insRet(2)), wide, stuck(api.TrapType))
	wantResult(t, straight(bound, nil, insLen(2, 2), insRet(2)), wide, fuelled)
	wantResult(t, straight(bound-1, nil, insStep, insRet(2)), wide, api.Result{Steps: 1})
	wantResult(t, straight(bound, nil, insStep, insRet(2)), wide, fuelled)
	wantResult(t, straight(bound-1, nil, insStep, insRet(2)), wide.fuel(0), fuelled)
	wantResult(t, straight(bound-1, nil, insCall(2, 0), insRet(2)), wide.depth(1), stuck(api.TrapDepth))
	wantResult(t, straight(bound, nil, insOut(2), insRet(2)), wide, fuelled)
}

// TestIdleSinceAStep has them behind steps, of which the last one counts.
func TestIdleSinceAStep(t *testing.T) { // 13.1
	for _, x := range []struct {
		ahead []api.Ins
		steps int
	}{{[]api.Ins{insStep}, 1}, {[]api.Ins{insMove(2, 2), insMove(2, 2), insStep}, 1}, {[]api.Ins{insStep, insNull(2), insNum(2, 0), insStep, insStep}, 3}} {
		wantResult(t, straight(bound-1, x.ahead, insRet(2)), wide, api.Result{Steps: x.steps})
		wantResult(t, straight(bound, x.ahead, insRet(2)), wide, api.Result{End: api.EndFuel, Steps: x.steps})
		wantResult(t, straight(bound, x.ahead, insStep, insRet(2)), wide, api.Result{End: api.EndFuel, Steps: x.steps})
		wantResult(t, straight(bound-1, x.ahead, insStep, insOut(2), insRet(2)), wide, api.Result{Steps: x.steps + 1, Out: []int64{0}})
	}
}

// TestIdleOverTheWhole: loops with a step within go on for as long as there are steps.
func TestIdleOverTheWhole(t *testing.T) { // 13.1
	wantResult(t, mainOf(0, insStep, insJump(0)), wide.fuel(3*bound), api.Result{End: api.EndFuel, Steps: 3 * bound})
	wantResult(t, mainOf(0, insJump(1), insJump(0)), wide, api.Result{End: api.EndFuel})
}

// TestIdleWithinCalls counts what all calls have done.
func TestIdleWithinCalls(t *testing.T) { // 13.1
	// A call, what it does and its ret are three instructions, the jump back is the fourth.
	c := codeOf(function(0, 1, insCall(0, 1), insJump(0)), function(0, 1, insOut(0), insRet(0)))
	want := api.Result{End: api.EndFuel, Out: make([]int64, bound/4)}
	wantResult(t, c, wide, want)
}

// idled is a machine that has done as many instructions as may be; the next one would answer.
func idled(t *testing.T, fuel int) *Machine {
	t.Helper()
	m := made(t, straight(bound, nil, insOut(2), insStop(2)), wide.fuel(fuel))
	for range bound {
		next(t, m)
	}
	return m
}

// TestIdleEndsWithTheNext: the run is not at its end till the next instruction is asked for.
func TestIdleEndsWithTheNext(t *testing.T) { // 13.1, P13.3
	m := idled(t, 5)
	if i, is := m.Here(); !is || i.Op != api.InsOut {
		t.Error(i, is)
	}
	wantEnd(t, m, api.EndFuel, num(0), 0)
	if _, is := m.Here(); is || m.Next() != api.Ended {
		t.Error("it goes on")
	}
}

// TestIdleAndWhatATraceAsks: a step that a trace takes is one, nothing else that it asks for is.
func TestIdleAndWhatATraceAsks(t *testing.T) { // 13.1, P13.5
	m := idled(t, 1)
	if !m.Step() {
		t.Fatal("no step is left")
	}
	next(t, m)
	if m.Next() != api.Ended || !sameResult(m.Result(), api.Result{Steps: 1, Out: []int64{0}}) {
		t.Error(m.Result())
	}
	m = idled(t, 0)
	l := m.Frames()
	if m.Step() || m.SetFrames(l) != api.OK || m.In() != num(20) || m.Out(num(3)) != 0 || m.Heap().Charge(1) != 0 {
		t.Fatal("a step is left")
	}
	wantEnd(t, m, api.EndFuel, num(0), 0)
	// Behind a trace's step just as many as may be.
	m = made(t, straight(bound, []api.Ins{insMove(2, 2)}, insRet(2)), wide)
	next(t, m)
	if !m.Step() {
		t.Fatal("no step is left")
	}
	for range bound {
		next(t, m)
	}
	wantEnd(t, m, api.EndFuel, num(0), 0)
}
