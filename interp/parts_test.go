package interp

import (
	"fmt"
	"math"
	"slices"
	"strconv"
	"strings"
	"testing"

	"swath/api"
	"swath/heap"
	"swath/ir"
)

var null = api.Value{Kind: api.Null}

func num(n int64) api.Value { return api.Value{N: n} }
func ref(n int64) api.Value { return api.Value{Kind: api.Ref, N: n} }

func nums(l ...int64) []api.Value {
	var values []api.Value
	for _, n := range l {
		values = append(values, num(n))
	}
	return values
}

// edges are numbers at which something turns.
var edges = []int64{0, 1, -1, 2, 3, -7, 63, 64, 65, 1 << 32, -1 << 32, 1<<32 + 1, math.MaxInt64, math.MaxInt64 - 1, math.MinInt64, math.MinInt64 + 1}

// odd are values that no instruction makes: of no kind, nulls with a number, things that there aren't.
var odd = []api.Value{{Kind: -1}, {Kind: 3}, {Kind: 256}, {Kind: 1 << 32, N: 1}, {Kind: math.MaxInt, N: 2}, {Kind: math.MinInt}, {Kind: api.Null, N: 1}, {Kind: api.Null, N: -1}, {Kind: api.Null, N: math.MinInt64}, ref(-1), ref(99), ref(1 << 32), ref(math.MaxInt64), ref(math.MinInt64)}

// given is what a run is given beside the code.
type given struct {
	image, input []int64
	lim          api.Limits
}

// wide is limits that nothing small meets, with an image and an input.
var wide = given{[]int64{7, -8, 1 << 40}, []int64{20, -21}, api.Limits{Fuel: 1000, Depth: 20, Cells: 5000}}

func (g given) fuel(n int) given  { g.lim.Fuel = n; return g }
func (g given) depth(n int) given { g.lim.Depth = n; return g }
func (g given) cells(n int) given { g.lim.Cells = n; return g }

// The instructions, with the fields of chapter 10's table in its order.
func insNum(a int, k int64) api.Ins            { return api.Ins{Op: api.InsNum, A: a, K: k} }
func insNull(a int) api.Ins                    { return api.Ins{Op: api.InsNull, A: a} }
func insMove(a, b int) api.Ins                 { return api.Ins{Op: api.InsMove, A: a, B: b} }
func insBin(a, b, c int, k int64) api.Ins      { return api.Ins{Op: api.InsBin, A: a, B: b, C: c, K: k} }
func insUn(a, b int, k int64) api.Ins          { return api.Ins{Op: api.InsUn, A: a, B: b, K: k} }
func insEq(a, b, c int) api.Ins                { return api.Ins{Op: api.InsEq, A: a, B: b, C: c} }
func insNe(a, b, c int) api.Ins                { return api.Ins{Op: api.InsNe, A: a, B: b, C: c} }
func insGet(a, b, c int, k int64) api.Ins      { return api.Ins{Op: api.InsGet, A: a, B: b, C: c, K: k} }
func insPut(a, b, c int, k int64) api.Ins      { return api.Ins{Op: api.InsPut, A: a, B: b, C: c, K: k} }
func insElem(a, b, c int) api.Ins              { return api.Ins{Op: api.InsElem, A: a, B: b, C: c} }
func insSetElem(a, b, c int) api.Ins           { return api.Ins{Op: api.InsSetElem, A: a, B: b, C: c} }
func insLen(a, b int) api.Ins                  { return api.Ins{Op: api.InsLen, A: a, B: b} }
func insNew(a, c int, k int64) api.Ins         { return api.Ins{Op: api.InsNew, A: a, C: c, K: k} }
func insArr(a, b int) api.Ins                  { return api.Ins{Op: api.InsArr, A: a, B: b} }
func insIn(a int) api.Ins                      { return api.Ins{Op: api.InsIn, A: a} }
func insOut(a int) api.Ins                     { return api.Ins{Op: api.InsOut, A: a} }
func insImg(a, b int) api.Ins                  { return api.Ins{Op: api.InsImg, A: a, B: b} }
func insSize(a int) api.Ins                    { return api.Ins{Op: api.InsSize, A: a} }
func insRoot(a int) api.Ins                    { return api.Ins{Op: api.InsRoot, A: a} }
func insSetRoot(a int) api.Ins                 { return api.Ins{Op: api.InsSetRoot, A: a} }
func insJump(k int64) api.Ins                  { return api.Ins{Op: api.InsJump, K: k} }
func insZero(a int, k int64) api.Ins           { return api.Ins{Op: api.InsZero, A: a, K: k} }
func insCall(a int, k int64, l ...int) api.Ins { return api.Ins{Op: api.InsCall, A: a, K: k, L: l} }
func insRet(a int) api.Ins                     { return api.Ins{Op: api.InsRet, A: a} }
func insStop(a int) api.Ins                    { return api.Ins{Op: api.InsStop, A: a} }
func insMerge(k int64, l ...int) api.Ins       { return api.Ins{Op: api.InsMerge, K: k, L: l} }
func insPromote(a, b int) api.Ins              { return api.Ins{Op: api.InsPromote, A: a, B: b} }

var insStep = api.Ins{Op: api.InsStep}

// function is one with so many parameters and registers.
func function(params, regs int, code ...api.Ins) api.Func {
	return api.Func{Name: fmt.Sprint("f", params, regs), Params: params, Regs: regs, Code: code}
}

// codeOf is code whose first function is Main.
func codeOf(functions ...api.Func) api.Code {
	c := api.Code{Funcs: functions}
	for _, f := range functions {
		for _, i := range f.Code {
			if i.Op == api.InsMerge {
				c.Merges++
			}
		}
	}
	return c
}

// mainOf is code with one function.
func mainOf(regs int, code ...api.Ins) api.Code { return codeOf(function(0, regs, code...)) }

func shown(c api.Code) string {
	var l []string
	for _, f := range c.Funcs {
		l = append(l, ir.Show(f))
	}
	return strings.Join(l, "")
}

// made is the machine of code that must be taken.
func made(t testing.TB, c api.Code, g given) *Machine {
	t.Helper()
	m, e := New(c, g.image, g.input, g.lim)
	if m == nil || e != api.OK {
		t.Fatalf("%v of\n%.2000s", e, shown(c))
	}
	return m
}

// framed is a machine whose frames were laid down.
func framed(t testing.TB, c api.Code, g given, frames ...api.Frame) *Machine {
	t.Helper()
	m := made(t, c, g)
	if e := m.SetFrames(frames); e != api.OK {
		t.Fatalf("%v: %v of\n%.2000s", e, frames, shown(c))
	}
	return m
}

// things are all things of a heap.
func things(h *heap.Heap) []api.Obj {
	var l []api.Obj
	for {
		o, is := h.Obj(ref(int64(len(l))))
		if !is {
			return l
		}
		l = append(l, o)
	}
}

// standing is all that a machine tells, but for how its run has ended.
func standing(m *Machine) string {
	r, h := m.Result(), m.Heap()
	return told(m.Frames(), r, h.Root(), things(h))
}

// told is frames, tapes, counts and things as a text.
func told(frames []api.Frame, r api.Result, root api.Value, things []api.Obj) string {
	var b text
	b.tell("out", r.Out...)
	b.tell("read steps cells root", int64(r.Read), int64(r.Steps), int64(r.Cells), int64(root.Kind), root.N)
	for _, f := range frames {
		b.tell("\nframe", int64(f.Fn), int64(f.Pc), int64(f.Into))
		b.values(f.Regs)
	}
	for _, o := range things {
		b.tell("\nthing", int64(o.Rec))
		b.values(o.Cells)
	}
	return string(b)
}

// text is what is told so far.
type text []byte

func (b *text) tell(what string, numbers ...int64) {
	*b = append(append(*b, what...), ' ')
	for _, n := range numbers {
		*b = append(strconv.AppendInt(*b, n, 10), ' ')
	}
}

func (b *text) values(l []api.Value) {
	for _, v := range l {
		b.tell(":", int64(v.Kind), v.N)
	}
}

// next does an instruction behind which the run goes on.
func next(t testing.TB, m *Machine) {
	t.Helper()
	if went := m.Next(); went != api.GoOn {
		t.Fatal("the run has ended:", m.Result())
	}
}

// wantEnd wants the next instruction to end the run with nothing else changed.
func wantEnd(t testing.TB, m *Machine, end int, v api.Value, trap int) {
	t.Helper()
	before := standing(m)
	if went := m.Next(); went != api.Ended {
		t.Fatal("the run goes on:", m.Frames())
	}
	if r := m.Result(); r.End != end || r.Value != v || r.Trap != trap {
		t.Fatal(r, "instead of", end, v, trap)
	}
	if after := standing(m); after != before {
		t.Fatalf("%s\nhas become\n%s", before, after)
	}
}

func wantTrap(t testing.TB, m *Machine, trap int) {
	t.Helper()
	wantEnd(t, m, api.EndTrap, api.Value{}, trap)
}

// wantResult wants a result, of an answer by Run and of one by New and Next.
func wantResult(t testing.TB, c api.Code, g given, want api.Result) *heap.Heap {
	t.Helper()
	r, h, e := Run(c, g.image, g.input, g.lim)
	if e != api.OK || h == nil || !sameResult(r, want) {
		t.Fatalf("%v %v; wanted %v of\n%.2000s", r, e, want, shown(c))
	}
	m := made(t, c, g)
	for m.Next() == api.GoOn {
	}
	if r := m.Result(); !sameResult(r, want) {
		t.Fatalf("%v by Next; wanted %v of\n%.2000s", r, want, shown(c))
	}
	return h
}

func sameResult(a, b api.Result) bool {
	return a.End == b.End && a.Value == b.Value && a.Trap == b.Trap && slices.Equal(a.Out, b.Out) && a.Read == b.Read && a.Steps == b.Steps && a.Cells == b.Cells
}

// The results that come most, with nothing beside.
func halted(v api.Value) api.Result { return api.Result{End: api.EndHalt, Value: v} }
func stuck(trap int) api.Result     { return api.Result{End: api.EndTrap, Trap: trap} }

// copied is code that shares nothing with c, with room behind all its lists, in which stands what would count if it were looked at.
func copied(c api.Code) api.Code {
	all := make([]api.Func, 0, len(c.Funcs)+1)
	for _, f := range c.Funcs {
		code := make([]api.Ins, 0, len(f.Code)+1)
		for _, i := range f.Code {
			i.L = append(append(make([]int, 0, len(i.L)+1), i.L...), -5)[:len(i.L)]
			code = append(code, i)
		}
		f.Code = append(code, api.Ins{Op: -5})[:len(f.Code)]
		all = append(all, f)
	}
	c.Funcs = append(all, api.Func{Regs: -5})[:len(c.Funcs)]
	return c
}

// behind tells whether what stands behind copied code's lists is still what was laid there.
func behind(c api.Code) bool {
	kept := c.Funcs[:len(c.Funcs)+1][len(c.Funcs)].Regs == -5
	for _, f := range c.Funcs {
		kept = kept && f.Code[:len(f.Code)+1][len(f.Code)].Op == -5
		for _, i := range f.Code {
			kept = kept && i.L[:len(i.L)+1][len(i.L)] == -5
		}
	}
	return kept
}
