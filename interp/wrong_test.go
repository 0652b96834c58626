package interp

import (
	"fmt"
	"math"
	"testing"

	"swath/api"
	"swath/ir"
)

// TestNobodysMachines has a nil machine and one that New did not make asked by every call.
func TestNobodysMachines(t *testing.T) { // P13.2, P1
	for what, m := range map[string]*Machine{"nil": nil, "empty": {}, "new": new(Machine)} {
		for range 2 {
			if went := m.Next(); went != api.Ended {
				t.Error(what, "Next", went)
			}
			wantNothing(t, what, m)
			for _, l := range [][]api.Frame{nil, {}, {{}}, {{Into: -1}}, {{Fn: 0, Pc: 0, Regs: nums(1), Into: -1}}, {place(0, 0, -1), place(1, 0, 0)}} {
				if e := m.SetFrames(l); e != api.ErrNone {
					t.Error(what, "SetFrames", l, e)
				}
			}
			for _, v := range append(nums(edges...), append(odd, null, ref(0))...) {
				if trap := m.Out(v); trap != api.TrapType {
					t.Error(what, "Out", v, trap)
				}
				if x, trap := m.Img(v); x != num(0) || trap != api.TrapType {
					t.Error(what, "Img", v, x, trap)
				}
			}
			if m.Step() || m.In() != num(0) {
				t.Error(what, "it has a step or a number")
			}
		}
	}
}

// wantNothing wants a machine to tell that it has nothing.
func wantNothing(t *testing.T, what string, m *Machine) {
	t.Helper()
	if l := m.Frames(); len(l) != 0 {
		t.Error(what, "Frames", l)
	}
	if i, is := m.Here(); is || !sameIns(i, api.Ins{}) {
		t.Error(what, "Here", i, is)
	}
	if fn, pc, n := m.At(); fn != 0 || pc != 0 || n != 0 {
		t.Error(what, "At", fn, pc, n)
	}
	if h := m.Heap(); h != nil {
		t.Error(what, "Heap", h)
	}
	if r := m.Result(); !sameResult(r, api.Result{}) {
		t.Error(what, "Result", r)
	}
	if d := m.Depth(); d != 0 {
		t.Error(what, "Depth", d)
	}
	for _, n := range []int{0, 1, -1, math.MaxInt, math.MinInt} {
		if f, v := m.Func(n), m.Reg(n); f.Name != "" || f.Params != 0 || f.Regs != 0 || len(f.Code) != 0 || v != num(0) {
			t.Error(what, "Func, Reg", n, f, v)
		}
	}
}

// refused is code that ir.Check refuses, of each rule some.
func refused() []api.Code {
	l := []api.Code{{}, {Funcs: []api.Func{}}, {Main: 1}, {Merges: 1}}
	for _, change := range []func(c *api.Code){
		func(c *api.Code) { c.Main = 1 }, func(c *api.Code) { c.Main = 4 }, func(c *api.Code) { c.Main = -1 }, func(c *api.Code) { c.Main = math.MaxInt }, func(c *api.Code) { c.Merges = 0 }, func(c *api.Code) { c.Merges = -1 },
		func(c *api.Code) { c.Funcs[1].Params = 2 }, func(c *api.Code) { c.Funcs[1].Params = -1 }, func(c *api.Code) { c.Funcs[0].Regs = 1 }, func(c *api.Code) { c.Funcs[0].Regs = 1001 }, func(c *api.Code) { c.Funcs[2].Regs = -1 }, func(c *api.Code) { c.Funcs[0].Regs = math.MaxInt },
		func(c *api.Code) { c.Funcs[3].Code = nil }, func(c *api.Code) { c.Funcs[0].Code = c.Funcs[0].Code[:3] }, func(c *api.Code) { c.Funcs[2].Code[1].K = 1 }, func(c *api.Code) { c.Funcs[2].Code[1].K = 2 }, func(c *api.Code) { c.Funcs[2].Code[1].K = -1 },
		func(c *api.Code) { c.Funcs[0].Code[0].Op = 0 }, func(c *api.Code) { c.Funcs[0].Code[0].Op = 29 }, func(c *api.Code) { c.Funcs[0].Code[0].Op = math.MinInt }, func(c *api.Code) { c.Funcs[0].Code[0].A = 2 }, func(c *api.Code) { c.Funcs[0].Code[0].A = -1 }, func(c *api.Code) { c.Funcs[0].Code[0].B = 1 },
		func(c *api.Code) { c.Funcs[0].Code[1].L = nil }, func(c *api.Code) { c.Funcs[0].Code[1].L = []int{0, 0} }, func(c *api.Code) { c.Funcs[0].Code[1].L = []int{2} }, func(c *api.Code) { c.Funcs[0].Code[1].K = 4 }, func(c *api.Code) { c.Funcs[1].Code[1].L = []int{0, 0, 0, 0, 0} },
		func(c *api.Code) { c.Funcs[0].Code[2] = insBin(0, 0, 0, 13) }, func(c *api.Code) { c.Funcs[0].Code[2] = insUn(0, 0, 12) }, func(c *api.Code) { c.Funcs[0].Code[2] = insGet(0, 0, 1001, 0) }, func(c *api.Code) { c.Funcs[0].Code[2] = insNew(0, 0, 1001) },
	} {
		c := hall()
		change(&c)
		l = append(l, c)
	}
	return l
}

func TestRefusedCode(t *testing.T) { // P13.1, P13.2
	for _, c := range refused() {
		_, _, want := ir.Check(c)
		if want == api.OK {
			t.Fatal("ir.Check takes", c)
		}
		if m, e := New(c, wide.image, wide.input, wide.lim); m != nil || e != want {
			t.Error(m, e, "instead of", want, c)
		}
		if r, h, e := Run(c, wide.image, wide.input, wide.lim); h != nil || e != want || !sameResult(r, api.Result{}) {
			t.Error(r, h, e, "instead of", want, c)
		}
	}
}

// TestGivenIsKept: what New was given may be changed outside, and nothing changes inside; nor does a run change what it was given.
func TestGivenIsKept(t *testing.T) { // P2
	c := codeOf(function(0, 3, insIn(0), insOut(0), insNum(1, 1), insImg(2, 1), insCall(2, 1, 0, 2), insOut(2), insIn(0), insOut(0), insStop(1)), function(2, 3, insMerge(0, 1, 0), insBin(2, 0, 1, api.OpSub), insRet(2)))
	want := api.Result{Value: num(1), Out: []int64{20, 28, -21}, Read: 2}
	given := copied(c)
	image, input := append([]int64{7, -8}, -5), append([]int64{20, -21}, -5)
	wantResult(t, given, wide, want)
	m, _ := New(given, image[:2], input[:2], wide.lim)
	for n := 0; m.Next() == api.GoOn; n++ {
		if n > 0 {
			continue
		}
		if fmt.Sprint(given) != fmt.Sprint(c) || !behind(given) || fmt.Sprint(image, input) != "[7 -8 -5] [20 -21 -5]" {
			t.Fatal("what was given is changed", given, image, input)
		}
		for _, f := range given.Funcs {
			for _, i := range f.Code {
				clear(i.L)
			}
			clear(f.Code)
		}
		clear(given.Funcs)
		clear(image)
		clear(input)
	}
	if r := m.Result(); !sameResult(r, want) {
		t.Error(r)
	}
}

// TestResultsAreNew: what Result answers may be changed outside.
func TestResultsAreNew(t *testing.T) { // P2
	m := made(t, mainOf(1, insIn(0), insOut(0), insOut(0), insOut(0), insRet(0)), wide)
	for n := range 4 {
		next(t, m)
		r, other := m.Result(), m.Result()
		for i := range r.Out[:cap(r.Out)] {
			r.Out[:cap(r.Out)][i] = -77
		}
		for _, o := range [][]int64{other.Out, m.Result().Out} {
			if len(o) != n || n > 0 && (o[0] != 20 || o[n-1] != 20) {
				t.Fatal("a result shares memory", o)
			}
		}
		kept := m.Result()
		next(t, made(t, hall(), wide))
		if !sameResult(kept, m.Result()) {
			t.Fatal(kept)
		}
	}
}

// TestMachinesApart: two machines of one code know nothing of each other.
func TestMachinesApart(t *testing.T) { // P3
	c := sampleRun(insRet(0))
	a, b := made(t, c, wide), made(t, c, wide)
	before := standing(b)
	for a.Next() == api.GoOn {
	}
	if standing(b) != before || a.Heap() == b.Heap() {
		t.Fatal("another machine has changed")
	}
	for b.Next() == api.GoOn {
	}
	if standing(a) != standing(b) || !sameResult(a.Result(), b.Result()) {
		t.Fatal(a.Result(), b.Result())
	}
}
