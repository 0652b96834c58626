package interp

import (
	"fmt"
	"math"
	"math/rand"
	"testing"

	"swath/api"
	"swath/check"
	"swath/ir"
	"swath/lower"
	"swath/sem"
)

// mostDone is how many instructions of a run by chance are held against the model, one by one.
const mostDone = 250

// TestByChance holds code made by chance against the model, instruction by instruction.
func TestByChance(t *testing.T) { // P13.3, P13.6, P13.7
	m := maker{rand.New(rand.NewSource(131))}
	ends := map[[2]int]int{}
	done := make([]int, api.InsPromote+1)
	deepest, open := 0, 0
	for range 3000 {
		c, g := m.code(), m.given()
		if f, i, e := ir.Check(c); e != api.OK {
			t.Fatal(f, i, shown(c))
		}
		a, want := made(t, c, g), modelOf(c, g)
		wantAsModel(t, a, want)
		n := 0
		for going := true; going && n < mostDone; n++ {
			i, _ := a.Here()
			done[i.Op]++
			deepest = max(deepest, len(want.frames))
			going = wantNext(t, a, &want)
		}
		if !want.ended {
			open++
			continue
		}
		r := wantRunAsNext(t, c, g)
		if !sameResult(r, want.result()) {
			t.Fatal(r, want.result())
		}
		ends[[2]int{r.End, r.Trap}]++
	}
	// The code is such that of all there is much: else nothing is held against anything.
	for op := api.InsNum; op <= api.InsPromote; op++ {
		if done[op] < 300 {
			t.Error("instruction", op, "was done", done[op], "times")
		}
	}
	for trap := range api.TrapType + 1 {
		if end := [2]int{min(trap, api.EndTrap), trap}; ends[end] < 20 {
			t.Error("end and trap", end, "came", ends[end], "times")
		}
	}
	if ends[[2]int{api.EndFuel, 0}] < 100 || deepest < 10 || open > 1500 {
		t.Error(ends, deepest, open)
	}
}

// wantRunAsNext wants Run, and New with Next until Ended, to come to the same, and answers it.
func wantRunAsNext(t testing.TB, c api.Code, g given) api.Result {
	t.Helper()
	r, h, e := Run(c, g.image, g.input, g.lim)
	if e != api.OK {
		t.Fatal(e)
	}
	m := made(t, c, g)
	for m.Next() == api.GoOn {
	}
	if q := m.Result(); !sameResult(q, r) || !sem.Same(q, m.Heap(), r, h) {
		t.Fatalf("%v by Next, %v by Run of\n%.3000s", q, r, shown(c))
	}
	if told(nil, r, h.Root(), things(h)) != told(nil, r, m.Heap().Root(), things(m.Heap())) {
		t.Fatal("another heap of", shown(c))
	}
	return r
}

// wantAsMeant wants code of a description to come to what sem.Run says of its tree, and answers it.
func wantAsMeant(t testing.TB, l []api.Node, c api.Code, g given) api.Result {
	t.Helper()
	r, h, e := Run(c, g.image, g.input, g.lim)
	if e != api.OK {
		t.Fatal(e)
	}
	want, k, e := sem.Run(l, g.image, g.input, g.lim)
	if e != api.OK || !sem.Same(r, h, want, k) {
		t.Fatalf("%v; wanted %v with %v of\n%.3000s", r, want, g, shown(c))
	}
	return r
}

// lowered is the tree and the code of a description that must be taken.
func lowered(t testing.TB, s string) ([]api.Node, api.Code) {
	t.Helper()
	l, _, at, e := check.Source(s)
	if e != api.OK {
		t.Fatal(s, at, e)
	}
	c, at, e := lower.Code(l)
	if e != api.OK {
		t.Fatal(s, at, e)
	}
	return l, c
}

// descriptions use all that there is, with loops, calls within one another and things, and come to each end.
var descriptions = []string{
	"fn main() { let n = 100; let s = 0; while n { merge(); s = s + n; n = n - 1; } return s; }",
	"fn main() { let n = 100; let s = 0; while n { s = s + n; n = n - 1; } return s; }",
	"fn main() { let n = 3; while n { out n; n = n - 1; } return null; }",
	"fn main() { out fib(11); return 0; } fn fib(n) { if n < 2 { return n; } return fib(n - 1) + fib(n - 2); }",
	"rec P {x, y} fn main() { let p = null; let n = in(); while n { merge(n); let q = new P; q.x = p; q.y = promote(n) * size(); p = q; n = n - 1; } let s = 0; while p != null { merge(); s = s + p.y; out s; p = p.x; } root = p; return s; }",
	"fn main() { let a = arr(8); let i = 0; while i < len(a) { a[i] = img(i % size()); i = i + 1; } let j = 0; while j < 8 { i = 0; while i < 7 { if a[i + 1] < a[i] { let v = a[i]; a[i] = a[i + 1]; a[i + 1] = v; } i = i + 1; } j = j + 1; } root = a; while i { out a[i]; i = i - 1; } return a; }",
	"fn main() { return main(); }", "fn main() { main(); }", "fn main() { }",
	"fn main() { let x = in(); let y = x / (x - 6); out y; let z = y; stop z; }",
	"fn main() { let x = 5; if in() { x = f(x, in()); } else { x = null; } out -x; return x + null; } fn f(a, b) { b = a; return f2(b) - ~a; } fn f2(a) { let c = 3; c = !a; return c; }",
	"fn main() { f(); f(); return f(); } fn f() { if root { let v = 9; out v; } root = 1; }",
	"fn main() { out f(); out 9; } fn f() { g(1, 2); out 8; } fn g(a, b) { while 1 { if a { stop a + b; } } }",
	"rec P {x} fn main() { let p = new P; while 1 { let q = new P; q.x = p; p = q; root = p; } }", "rec P {x} fn main() { return null.x; }", "fn main() { let n = 3; while n { out 12 / (n - 1); n = n - 1; } }",
}

func TestDescriptions(t *testing.T) { // P13.7
	ends := map[[2]int]int{}
	for _, s := range descriptions {
		l, c := lowered(t, s)
		for _, fuel := range []int{math.MinInt, -1, 0, 1, 2, 3, 10, 30, 100, 300, 1000, 5000} {
			for _, depth := range []int{-5, 0, 1, 2, 3, 12, 1000, math.MaxInt} {
				for _, cells := range []int{math.MinInt, 0, 8, 9, 100} {
					g := given{[]int64{3, 1, 2}, []int64{6, 0, 9}, api.Limits{Fuel: fuel, Depth: depth, Cells: cells}}
					r := wantAsMeant(t, l, c, g)
					ends[[2]int{r.End, r.Trap}]++
				}
			}
		}
		wantRunAsNext(t, c, wide)
	}
	for _, trap := range []int{0, api.TrapDiv, api.TrapNull, api.TrapDepth, api.TrapCells, api.TrapType} {
		if end := [2]int{min(trap, api.EndTrap), trap}; ends[end] == 0 {
			t.Error("end and trap", end, "never came")
		}
	}
}

func TestDescriptionsByChance(t *testing.T) { // P13.7
	m := maker{rand.New(rand.NewSource(132))}
	ends := map[[2]int]int{}
	for range 4000 {
		l, c := lowered(t, m.description())
		for range 3 {
			g := given{m.numbers(6), m.numbers(20), api.Limits{Fuel: 1 + m.Intn(400), Depth: 1 + m.Intn(25), Cells: 8 + m.Intn(150)}}
			r := wantAsMeant(t, l, c, g)
			ends[[2]int{r.End, r.Trap}]++
		}
	}
	for trap := range api.TrapType + 1 {
		if end := [2]int{min(trap, api.EndTrap), trap}; ends[end] < 50 {
			t.Error("end and trap", end, "came", ends[end], "times")
		}
	}
	if ends[[2]int{api.EndFuel, 0}] < 50 {
		t.Error(ends)
	}
}

// TestFewerSteps: with fewer steps a run ends at one of them, with what a longer one has by then.
func TestFewerSteps(t *testing.T) { // 13.1, P13.6
	m := maker{rand.New(rand.NewSource(133))}
	for range 100 {
		l, c := lowered(t, m.description())
		g := given{m.numbers(6), m.numbers(20), api.Limits{Depth: 9, Cells: 90}}
		for fuel := range 60 {
			wantAsMeant(t, l, c, g.fuel(fuel))
		}
	}
}

// anyNumber is one near a bound, or far from all.
func (m maker) anyNumber() int {
	switch m.Intn(4) {
	case 0:
		return int(m.Uint64())
	case 1:
		return int(edges[m.Intn(len(edges))])
	case 2:
		return []int{999, 1000, 1001, 99999, 100000, 1000000, 10000000, 10000001}[m.Intn(8)]
	}
	return m.Intn(31) - 1
}

func (m maker) anyNumbers() []int64 {
	l := make([]int64, m.Intn(4))
	for n := range l {
		l[n] = int64(m.anyNumber())
	}
	return l
}

// spoil changes a number of code, whichever.
func (m maker) spoil(c *api.Code) {
	f := &c.Funcs[m.Intn(len(c.Funcs))]
	i := &f.Code[m.Intn(len(f.Code))]
	fields := []*int{&c.Main, &c.Merges, &f.Params, &f.Regs, &i.Op, &i.A, &i.B, &i.C, &i.A, &i.Op, &i.C}
	if len(i.L) > 0 {
		fields = append(fields, &i.L[m.Intn(len(i.L))])
	}
	if m.Intn(4) == 0 {
		i.K = int64(m.anyNumber())
		return
	}
	*fields[m.Intn(len(fields))] = m.anyNumber()
}

// TestAnyNumbersAtAll: whatever numbers code, images, inputs and limits have, every call answers, and nothing that is given is changed.
func TestAnyNumbersAtAll(t *testing.T) { // P1, P2
	m := maker{rand.New(rand.NewSource(134))}
	taken, refused := 0, 0
	for range 6000 {
		c := m.code()
		for range m.Intn(3) {
			m.spoil(&c)
		}
		g := given{m.anyNumbers(), m.anyNumbers(), api.Limits{Fuel: min(m.anyNumber(), 2000), Depth: m.anyNumber(), Cells: m.anyNumber()}}
		c = copied(c)
		before := fmt.Sprint(c, g)
		_, _, e := ir.Check(c)
		a, got := New(c, g.image, g.input, g.lim)
		if got != e || (a == nil) != (e != api.OK) {
			t.Fatal(got, e)
		}
		m.useUp(t, a)
		if got := fmt.Sprint(c, g); got != before || !behind(c) {
			t.Fatal(before, "has become", got)
		}
		if e == api.OK {
			taken++
		} else {
			refused++
		}
	}
	if taken < 1000 || refused < 1000 {
		t.Error(taken, refused)
	}
}

// useUp asks a machine for all things in any order, with any values, for some time.
func (m maker) useUp(t *testing.T, a *Machine) {
	for range 120 {
		switch m.Intn(24) {
		case 0:
			a.Step()
		case 1:
			a.In()
		case 2:
			a.Out(m.value())
		case 3:
			a.Img(m.value())
		case 4:
			a.Reg(m.anyNumber())
		case 5:
			a.Func(m.anyNumber())
		case 6:
			m.shake(t, a)
		case 7:
			if m.Intn(40) == 0 && a.Heap() != nil {
				*a.Heap() = *made(t, hall(), wide).Heap()
			}
		default:
			a.Next()
			a.Here()
			a.At()
		}
	}
	a.Result()
}

// shake lays down frames with any registers, and now and then such as may not be.
func (m maker) shake(t *testing.T, a *Machine) {
	l := a.Frames()
	if len(l) == 0 {
		return
	}
	f := &l[m.Intn(len(l))]
	for r := range f.Regs {
		if m.Intn(3) == 0 {
			f.Regs[r] = m.value()
		}
	}
	if m.Intn(2) == 0 {
		*[]*int{&f.Fn, &f.Pc, &f.Into}[m.Intn(3)] = m.anyNumber()
	}
	before := standing(a)
	if e := a.SetFrames(l); e != api.OK && standing(a) != before {
		t.Fatal(e, "and yet something is changed")
	}
}

func FuzzRun(f *testing.F) {
	f.Add([]byte{1, 0, 0, 0, 7, 16, 0, 0, 0, 0, 24, 0, 0, 0, 0}, 5, 5, 50)
	f.Add([]byte{15, 1, 0, 0, 0, 22, 1, 0, 0, 4, 26, 0, 0, 0, 0, 23, 2, 0, 0, 0, 24, 2, 0, 0, 0}, 9, 3, 0)
	f.Add([]byte{13, 0, 0, 2, 0, 9, 0, 0, 1, 0, 8, 1, 0, 1, 0, 20, 1, 0, 0, 0, 25, 1, 0, 0, 0}, 0, -1, 3)
	f.Fuzz(func(t *testing.T, bytes []byte, fuel, depth, cells int) {
		body := api.Func{Name: "f", Regs: 4}
		for ; len(bytes) >= 5 && len(body.Code) < 60; bytes = bytes[5:] {
			n := func(at int) int { return int(int8(bytes[at])) }
			body.Code = append(body.Code, api.Ins{Op: n(0), A: n(1), B: n(2), C: n(3), K: int64(n(4))})
		}
		c := codeOf(body)
		g := given{[]int64{3, 0, -1}, []int64{2, 1, 0}, api.Limits{Fuel: fuel % 1000, Depth: depth, Cells: cells % 1000}}
		_, _, e := ir.Check(c)
		a, got := New(c, g.image, g.input, g.lim)
		if got != e {
			t.Fatal(got, e)
		}
		if e != api.OK {
			return
		}
		want := modelOf(c, g)
		for range 200 {
			if !wantNext(t, a, &want) {
				wantRunAsNext(t, c, g)
				return
			}
		}
	})
}
