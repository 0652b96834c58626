package interp

import (
	"fmt"
	"math"
	"slices"
	"testing"

	"swath/api"
)

// hall is code with functions of 2, 3, 0 and 1 registers, and 4, 3, 2 and 1 instructions.
func hall() api.Code {
	return codeOf(
		function(0, 2, insNum(0, 5), insCall(1, 1, 0), insOut(1), insRet(1)),
		function(1, 3, insMove(2, 0), insMerge(0, 2, 1), insRet(2)),
		function(0, 0, insStep, insJump(0)),
		function(1, 1, insStop(0)),
	)
}

// place is a frame of the hall's function fn at pc, with registers of their own.
func place(fn, pc, into int) api.Frame {
	f := api.Frame{Fn: fn, Pc: pc, Into: into}
	for n := range hall().Funcs[fn].Regs {
		f.Regs = append(f.Regs, num(int64(100*fn+10*pc+n)))
	}
	return f
}

func TestFrames(t *testing.T) { // P13.4
	m := made(t, hall(), wide)
	next(t, m)
	next(t, m)
	want := []api.Frame{{Fn: 0, Pc: 2, Regs: nums(5, 0), Into: -1}, {Fn: 1, Pc: 0, Regs: nums(5, 0, 0), Into: 1}}
	if l := m.Frames(); fmt.Sprint(l) != fmt.Sprint(want) {
		t.Fatal(l, "instead of", want)
	}
}

// TestFramesAreNew: what is answered may be changed outside.
func TestFramesAreNew(t *testing.T) { // P13.4, P2
	m := made(t, hall(), wide)
	next(t, m)
	next(t, m)
	before := standing(m)
	l, other := m.Frames(), m.Frames()
	kept := fmt.Sprint(other)
	for n := range l {
		for r := range l[n].Regs[:cap(l[n].Regs)] {
			l[n].Regs[:cap(l[n].Regs)][r] = num(-77)
		}
		l[n].Pc, l[n].Fn, l[n].Into = -7, -7, -7
	}
	clear(l[:cap(l)])
	if standing(m) != before || fmt.Sprint(other) != kept {
		t.Fatal("what was answered is the machine's")
	}
	next(t, m)
	next(t, m)
	if fmt.Sprint(other) != kept {
		t.Fatal("what was answered changes with the machine", other)
	}
}

// TestSetFrames has frames that may be, and has them go on.
func TestSetFrames(t *testing.T) { // P13.4
	many := []api.Frame{place(1, 0, -1)}
	for len(many) < 20 {
		many = append(many, place(1, len(many)%3, len(many)%3))
	}
	for _, l := range [][]api.Frame{
		{place(0, 0, -1)}, {place(0, 3, -1)}, {place(1, 2, -1)}, {place(2, 1, -1)}, {place(3, 0, -1)}, {place(0, 2, -1), place(1, 0, 0)}, {place(0, 0, -1), place(2, 1, 1)}, {place(1, 0, -1), place(1, 1, 2), place(1, 2, 0), place(0, 3, 1), place(3, 0, 1)},
		{place(3, 0, -1), place(2, 0, 0)}, many,
	} {
		m := framed(t, hall(), wide, l...)
		if got := m.Frames(); fmt.Sprint(got) != fmt.Sprint(l) {
			t.Fatal(got, "instead of", l)
		}
		last := l[len(l)-1]
		if fn, pc, n := m.At(); fn != last.Fn || pc != last.Pc || n != len(l) {
			t.Fatal(fn, pc, n, l)
		}
		want := takenOver(m, hall(), wide)
		for range 100 {
			if !wantNext(t, m, &want) {
				break
			}
		}
	}
}

// spoiled are lists of frames that may not be: of each way one.
func spoiled() map[string][]api.Frame {
	l := map[string][]api.Frame{"nil": nil, "empty": {}}
	put := func(what string, change func(l []api.Frame)) {
		for n, at := range []string{"of the first", "of the second", "of the last"} {
			l[what+" "+at] = []api.Frame{place(0, 2, -1), place(1, 1, 1), place(1, 2, 2)}
			change(l[what+" "+at][n : n+1])
		}
	}
	for _, n := range []int{-1, 4, 5, 1 << 32, math.MaxInt, math.MinInt} {
		put(fmt.Sprint("Fn ", n), func(l []api.Frame) { l[0].Fn = n })
		put(fmt.Sprint("Pc ", n), func(l []api.Frame) { l[0].Pc = n })
	}
	put("another Fn", func(l []api.Frame) { l[0].Fn = 1 - l[0].Fn })
	put("Pc behind the code", func(l []api.Frame) { l[0].Pc = len(hall().Funcs[l[0].Fn].Code) })
	put("too few Regs", func(l []api.Frame) { l[0].Regs = l[0].Regs[1:] })
	put("too many Regs", func(l []api.Frame) { l[0].Regs = append(l[0].Regs, num(0)) })
	put("no Regs", func(l []api.Frame) { l[0].Regs = nil })
	put("too short Regs", func(l []api.Frame) { l[0].Regs = l[0].Regs[: len(l[0].Regs)-1 : len(l[0].Regs)] })
	for _, n := range []int{-2, 3, 4, 1 << 32, math.MaxInt, math.MinInt} {
		put(fmt.Sprint("Into ", n), func(l []api.Frame) { l[0].Into = n })
	}
	for _, n := range []int{0, 1} {
		l[fmt.Sprint("Into of the first ", n)] = []api.Frame{place(0, 2, n), place(1, 1, 1), place(1, 2, 2)}
	}
	l["Into of the second -1"] = []api.Frame{place(0, 2, -1), place(1, 1, -1)}
	l["Into of the second 2"] = []api.Frame{place(0, 2, -1), place(1, 1, 2)}
	l["Into of the last -1"] = []api.Frame{place(0, 2, -1), place(1, 1, 1), place(1, 1, -1)}
	l["Into of no registers"] = []api.Frame{place(2, 0, -1), place(1, 1, 0)}
	l["Into of its own register"] = []api.Frame{place(3, 0, -1), place(1, 1, 1)}
	l["no Into"] = []api.Frame{{Fn: 0, Pc: 0, Regs: nums(1, 2)}}
	return l
}

func TestWrongFrames(t *testing.T) { // P13.4, P4
	for what, l := range spoiled() {
		m := framed(t, hall(), wide, place(1, 1, -1), place(0, 2, 1))
		before, r := standing(m), m.Result()
		if e := m.SetFrames(l); e != api.ErrRange || standing(m) != before || !sameResult(m.Result(), r) {
			t.Error(what, e)
		}
		next(t, m)
	}
}

// TestTooManyFrames has as many as may be, and one more.
func TestTooManyFrames(t *testing.T) { // P13.4
	for _, depth := range []int{math.MinInt, 0, 1, 2, 3, 999, 1000, 1001, math.MaxInt} {
		m := made(t, hall(), wide.depth(depth))
		may := m.Depth()
		l := []api.Frame{place(1, 0, -1)}
		for len(l) < may {
			l = append(l, place(1, 0, 1))
		}
		if m.SetFrames(append(slices.Clone(l), place(1, 0, 0))) != api.ErrRange {
			t.Error(depth, "one too many")
		}
		if m.SetFrames(l) != api.OK || len(m.Frames()) != may {
			t.Error(depth, "as many as may be")
		}
		if l[may-1] = place(0, 1, 1); may == 1 {
			l[0].Into = -1
		}
		if m.SetFrames(l) != api.OK {
			t.Error(depth, "as many as may be, about to call")
		}
		wantTrap(t, m, api.TrapDepth)
	}
}

// TestSetFramesAtTheEnd: frames that may be are not taken there, others are refused first.
func TestSetFramesAtTheEnd(t *testing.T) { // P13.4, P4
	for _, end := range []api.Ins{insRet(0), insStop(0), insLen(0, 0), insStep, insCall(0, 0)} {
		m := made(t, mainOf(1, end, insRet(0)), wide.fuel(0).depth(1))
		if m.Next() != api.Ended {
			t.Fatal(end)
		}
		before, r := standing(m), m.Result()
		if e := m.SetFrames([]api.Frame{{Regs: nums(5), Into: -1}}); e != api.ErrNone {
			t.Error(end, e)
		}
		for _, l := range [][]api.Frame{nil, {{Regs: nums(5), Into: 0}}, {{Regs: nums(5), Into: -1}, {Regs: nums(5)}}, {{Fn: 1, Regs: nums(5), Into: -1}}} {
			if e := m.SetFrames(l); e != api.ErrRange {
				t.Error(end, l, e)
			}
		}
		if standing(m) != before || !sameResult(m.Result(), r) || m.Next() != api.Ended {
			t.Error(end, "it has changed")
		}
	}
}

// TestHandedInFrames: what was handed in is nobody else's, is not changed, and is not read behind its end.
func TestHandedInFrames(t *testing.T) { // P13.4, P2
	shared := append(nums(1, 2, 3), num(-5))
	l := []api.Frame{{Fn: 1, Pc: 0, Regs: shared[:3], Into: -1}, {Fn: 1, Pc: 0, Regs: shared[:3], Into: 1}, {Fn: -5}}
	m := framed(t, hall(), wide, l[:2]...)
	before := standing(m)
	l[0].Pc, l[1].Fn, shared[0] = 2, 0, num(-9)
	if standing(m) != before {
		t.Fatal("what was handed in is still the giver's")
	}
	next(t, m)
	next(t, m)
	next(t, m)
	if fmt.Sprint(shared) != fmt.Sprint(append([]api.Value{num(-9)}, nums(2, 3, -5)...)) || l[0].Pc != 2 || l[1].Fn != 0 || l[2].Fn != -5 {
		t.Fatal("what was handed in is changed", l, shared)
	}
	// The registers of both frames were one list, and are not.
	if got := m.Frames(); len(got) != 1 || fmt.Sprint(got[0].Regs) != fmt.Sprint(nums(1, 1, 3)) {
		t.Fatal(got)
	}
	next(t, m)
	if got := m.Frames(); fmt.Sprint(got[0].Regs) != fmt.Sprint(nums(1, 1, 1)) || got[0].Pc != 1 {
		t.Fatal(got)
	}
}

// TestFramesThereAndBack: what Frames answers SetFrames takes, at any time, and nothing comes otherwise.
func TestFramesThereAndBack(t *testing.T) { // P13.4
	c := deeper()
	g := given{input: []int64{9}, lim: api.Limits{Depth: 30}}
	m, other := made(t, c, g), made(t, c, g)
	for m.Next() == api.GoOn {
		if e := m.SetFrames(m.Frames()); e != api.OK {
			t.Fatal(e)
		}
		next(t, other)
		if standing(m) != standing(other) {
			t.Fatal(m.Frames(), other.Frames())
		}
	}
	if other.Next() != api.Ended || !sameResult(m.Result(), other.Result()) || m.Result().Value != num(9) {
		t.Fatal(m.Result(), other.Result())
	}
}

// looks are what Here, Reg, Depth, At and Func answer.
func looks(m *Machine) string {
	i, is := m.Here()
	fn, pc, n := m.At()
	s := fmt.Sprint(i, is, fn, pc, n, m.Depth())
	for r := -1; r < 4; r++ {
		s += fmt.Sprint(" ", m.Reg(r))
	}
	return s
}

func TestLooking(t *testing.T) { // P13.4
	m := made(t, hall(), wide)
	for n, want := range []string{
		"{1 0 0 0 5 []} true 0 0 1 20 {0 0} {0 0} {0 0} {0 0} {0 0}",
		"{23 1 0 0 1 [0]} true 0 1 1 20 {0 0} {0 5} {0 0} {0 0} {0 0}",
		"{3 2 0 0 0 []} true 1 0 2 20 {0 0} {0 5} {0 0} {0 0} {0 0}",
		"{27 0 0 0 0 [2 1]} true 1 1 2 20 {0 0} {0 5} {0 0} {0 5} {0 0}",
		"{24 2 0 0 0 []} true 1 2 2 20 {0 0} {0 5} {0 0} {0 5} {0 0}",
		"{16 1 0 0 0 []} true 0 2 1 20 {0 0} {0 5} {0 5} {0 0} {0 0}",
		"{24 1 0 0 0 []} true 0 3 1 20 {0 0} {0 5} {0 5} {0 0} {0 0}",
		"{0 0 0 0 0 []} false 0 0 0 20 {0 0} {0 0} {0 0} {0 0} {0 0}",
	} {
		before := standing(m)
		if got := looks(m); got != want {
			t.Error(n, got, "instead of", want)
		}
		if standing(m) != before {
			t.Error(n, "looking changes something")
		}
		if went := m.Next(); (went == api.Ended) != (n > 5) {
			t.Error(n, went)
		}
	}
}

// TestLookingAtTheEnd: where frames are left their registers are told, but no place.
func TestLookingAtTheEnd(t *testing.T) { // P13.4
	for _, end := range []api.Ins{insStop(0), insOut(1), insStep, insCall(0, 0)} {
		m := framed(t, codeOf(function(0, 3, end, insRet(0)), function(0, 2, insRet(0))), wide.fuel(0).depth(2), api.Frame{Fn: 1, Regs: nums(8, 9), Into: -1}, api.Frame{Regs: []api.Value{num(6), null, num(7)}, Into: 0})
		if m.Next() != api.Ended {
			t.Fatal(end)
		}
		if got := looks(m); got != "{0 0 0 0 0 []} false 0 0 0 2 {0 0} {0 6} {1 0} {0 7} {0 0}" {
			t.Error(end, got)
		}
		if l := m.Frames(); len(l) != 2 || l[1].Pc != 0 {
			t.Error(end, l)
		}
		if f := m.Func(1); f.Regs != 2 {
			t.Error(end, f)
		}
	}
}

func TestReg(t *testing.T) { // P13.4
	m := framed(t, hall(), wide, place(0, 2, -1), place(1, 1, 0))
	for n, want := range map[int]api.Value{0: num(110), 1: num(111), 2: num(112), -1: num(0), 3: num(0), 1 << 32: num(0), math.MaxInt: num(0), math.MinInt: num(0)} {
		if v := m.Reg(n); v != want {
			t.Error(n, v)
		}
	}
	m = framed(t, hall(), wide, place(2, 1, -1))
	for _, n := range []int{0, -1, 1} {
		if v := m.Reg(n); v != num(0) {
			t.Error(n, v)
		}
	}
}

func TestFunc(t *testing.T) { // P13.4, P2
	c := hall()
	m := made(t, c, wide)
	for n, f := range c.Funcs {
		if got := m.Func(n); fmt.Sprint(got) != fmt.Sprint(f) {
			t.Error(n, got)
		}
	}
	for _, n := range []int{-1, 4, 5, 1 << 32, math.MaxInt, math.MinInt} {
		if f := m.Func(n); f.Name != "" || f.Params != 0 || f.Regs != 0 || len(f.Code) != 0 {
			t.Error(n, f)
		}
	}
	// What is answered is nobody else's.
	f, i := m.Func(0), api.Ins{}
	clear(f.Code[1].L)
	f.Code[1].L[0] = 1
	f.Code[0] = insNull(1)
	clear(f.Code[:cap(f.Code)])
	next(t, m)
	i, _ = m.Here()
	i.L[0] = 1
	if got := m.Func(0); fmt.Sprint(got) != fmt.Sprint(c.Funcs[0]) {
		t.Error("what was answered is the machine's", got)
	}
	next(t, m)
	if m.Reg(0) != num(5) {
		t.Error(m.Frames())
	}
}
