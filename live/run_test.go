package live

import (
	"math/rand"
	"slices"
	"testing"

	"swath/api"
	"swath/check"
	"swath/ir"
	"swath/lower"
	"swath/sem"
)

// The registers of code made by chance that is run: numbers, two records, an array, and two that may be anything.
const (
	aRecord = 5
	anArray = 7
	runRegs = 10
)

func (m chancer) small() int    { return m.Intn(aRecord) }
func (m chancer) record() int   { return aRecord + m.Intn(2) }
func (m chancer) anything() int { return m.Intn(runRegs) }

// runnable is right code of a few functions, most of whose instructions do not trap.
func (m chancer) runnable() api.Code {
	c := api.Code{Funcs: make([]api.Func, 1+m.Intn(3))}
	for n := range c.Funcs {
		c.Funcs[n] = api.Func{Name: string(rune('a' + n)), Regs: runRegs, Code: make([]api.Ins, 12+m.Intn(25))}
		if n > 0 {
			c.Funcs[n].Params = m.Intn(4)
		}
	}
	for _, f := range c.Funcs {
		copy(f.Code, []api.Ins{{Op: api.InsNew, A: 5, C: 2}, {Op: api.InsNew, A: 6, C: 2}, {Op: api.InsNum, A: 4, K: 3}, {Op: api.InsArr, A: 7, B: 4}})
		for at := 4; at < len(f.Code); at++ {
			f.Code[at] = m.runnableIns(&c, f, at)
		}
		f.Code[len(f.Code)-1] = []api.Ins{ret(m.anything()), jump(int64(m.Intn(len(f.Code) - 1)))}[m.Intn(2)]
	}
	return c
}

// runnableIns is an instruction for a place behind the first ones of a function.
func (m chancer) runnableIns(c *api.Code, f api.Func, at int) api.Ins {
	i := api.Ins{Op: 1 + m.Intn(ops)}
	rest := int64(len(f.Code) - 4)
	switch i.Op {
	case api.InsNum:
		i.A, i.K = m.small(), m.Int63n(5)-1
	case api.InsBin:
		i = api.Ins{Op: i.Op, A: m.small(), B: m.small(), C: m.small(), K: []int64{1, 2, 3, 8, 9, 10, 11, 12, 5}[m.Intn(9)]}
	case api.InsUn:
		i.A, i.B, i.K = m.small(), m.small(), 13+m.Int63n(3)
	case api.InsMove, api.InsPromote:
		i.A, i.B = m.small(), m.small()
		if m.Intn(3) == 0 {
			i.A, i.B = 8+m.Intn(2), m.anything()
		}
	case api.InsEq, api.InsNe:
		i.A, i.B, i.C = m.small(), m.anything(), m.anything()
	case api.InsNull, api.InsIn, api.InsRoot:
		i.A = 8 + m.Intn(2)
	case api.InsOut:
		i.A = []int{m.small(), m.anything()}[m.Intn(20)/19]
	case api.InsSize:
		i.A = m.small()
	case api.InsSetRoot, api.InsRet, api.InsStop:
		i.A = m.anything()
	case api.InsGet:
		i.A, i.B, i.C = m.small(), m.record(), m.Intn(2)
	case api.InsPut:
		i.A, i.B, i.C = m.record(), m.small(), m.Intn(2)
	case api.InsLen, api.InsArr:
		i.A, i.B = m.small(), anArray
		if i.Op == api.InsArr {
			i.A, i.B = anArray, m.small()
		}
	case api.InsElem:
		i.A, i.B, i.C = m.small(), anArray, m.small()
	case api.InsSetElem:
		i.A, i.B, i.C = anArray, m.small(), m.anything()
	case api.InsNew:
		i.A, i.C = m.record(), 2
	case api.InsImg:
		i.A, i.B = m.small(), m.small()
	case api.InsJump, api.InsZero:
		i.K = 4 + (int64(at-4)+1+m.Int63n(rest-1))%rest
		if i.Op == api.InsZero {
			i.A = m.small()
		}
	case api.InsCall:
		i.A, i.K = m.small(), m.Int63n(int64(len(c.Funcs)))
		for range c.Funcs[i.K].Params {
			i.L = append(i.L, m.small())
		}
	case api.InsMerge:
		i.K = int64(c.Merges)
		c.Merges++
		for range m.Intn(5) {
			i.L = append(i.L, m.anything())
		}
	}
	return i
}

// tablesOf are the tables of all functions.
func tablesOf(c api.Code) [][][]int {
	var l [][][]int
	for _, f := range c.Funcs {
		l = append(l, Tables(f))
	}
	return l
}

// other is any value, but that one.
func (m chancer) other(v api.Value) api.Value {
	for {
		if w := (api.Value{Kind: m.Intn(4), N: m.Int63n(9) - 1}); w != v {
			return w
		}
	}
}

// spoil changes all registers that are not live; in a frame that waits for an answer the register that gets it is none that is.
// It answers how many it has changed.
func (m chancer) spoil(a *machine, tables [][][]int) int {
	changed := 0
	for n, f := range a.frames {
		live := tables[f.Fn][f.Pc]
		for r, v := range f.Regs {
			waits := n+1 < len(a.frames) && a.frames[n+1].Into == r
			if waits || !slices.Contains(live, r) {
				f.Regs[r] = m.other(v)
				changed++
			}
		}
	}
	return changed
}

// wantAsItWas wants a run to have gone as another one: by the same instructions, which read the same values, to the same end.
func wantAsItWas(t *testing.T, got, want *machine) {
	t.Helper()
	for n := range min(len(got.did), len(want.did)) {
		if got.did[n] != want.did[n] {
			t.Fatalf("instruction %d: %v; wanted %v in\n%s", n, got.did[n], want.did[n], shown(want.code))
		}
	}
	if len(got.did) != len(want.did) || got.ended != want.ended || got.result.Value != want.result.Value || !sem.Same(got.result, got.heap, want.result, want.heap) {
		t.Fatalf("%v behind %d; wanted %v behind %d in\n%s", got.result, len(got.did), want.result, len(want.did), shown(want.code))
	}
}

func shown(c api.Code) string {
	s := ""
	for _, f := range c.Funcs {
		s += ir.Show(f)
	}
	return s
}

func nothing(*machine) {}

// wantEnough wants a run to go on as it would have with what is not live changed, at one place, and at all places; it answers the run, and how many registers were changed.
func (m chancer) wantEnough(t *testing.T, c api.Code, g given) (*machine, int) {
	t.Helper()
	tables := tablesOf(c)
	changed := 0
	want := run(c, g, nothing)
	for range 4 {
		when := m.Intn(len(want.did))
		wantAsItWas(t, run(c, g, func(a *machine) {
			if len(a.did) == when {
				changed += m.spoil(a, tables)
			}
		}), want)
	}
	wantAsItWas(t, run(c, g, func(a *machine) { changed += m.spoil(a, tables) }), want)
	return want, changed
}

func TestEnoughByChance(t *testing.T) { // P12.3
	m := chancer{rand.New(rand.NewSource(128))}
	ends := map[[2]int]int{}
	done := make([]int, ops+1)
	length, changed, deep, open := 0, 0, 0, 0
	for range 3000 {
		c := m.runnable()
		if f, i, e := ir.Check(c); e != api.OK {
			t.Fatal(f, i, shown(c))
		}
		a, n := m.wantEnough(t, c, given{[]int64{1, 0, 2}, []int64{3, 0, 1}, api.Limits{Fuel: 5 + m.Intn(40), Depth: 1 + m.Intn(12), Cells: 60 + m.Intn(300)}, 400})
		for _, now := range a.did {
			done[c.Funcs[now.fn].Code[now.pc].Op]++
			deep = max(deep, now.depth)
		}
		length, changed = length+len(a.did), changed+n
		if !a.ended {
			open++
			continue
		}
		ends[[2]int{a.result.End, a.result.Trap}]++
	}
	if slices.Contains(done[1:], 0) || length < 3000*30 || changed < length || deep < 8 || open < 50 {
		t.Error(done, length, changed, deep, open)
	}
	for _, end := range [][2]int{{api.EndHalt, 0}, {api.EndFuel, 0}, {api.EndTrap, api.TrapIndex}, {api.EndTrap, api.TrapDepth}, {api.EndTrap, api.TrapCells}, {api.EndTrap, api.TrapType}} {
		if ends[end] < 20 {
			t.Error("end and trap", end, "came", ends[end], "times")
		}
	}
}

// descriptions are such as use all that there is, with loops, calls within one another and things.
var descriptions = []string{
	"fn main() { let n = 100; let s = 0; while n { merge(); s = s + n; n = n - 1; } return s; }",
	"fn main() { out fib(11); return 0; } fn fib(n) { if n < 2 { return n; } return fib(n - 1) + fib(n - 2); }",
	"rec P {x, y} fn main() { let p = null; let n = in(); while n { merge(n); let q = new P; q.x = p; q.y = promote(n) * size(); p = q; n = n - 1; } let s = 0; while p != null { merge(); s = s + p.y; out s; p = p.x; } root = p; return s; }",
	"fn main() { let a = arr(8); let i = 0; while i < len(a) { a[i] = img(i % size()); i = i + 1; } let j = 0; while j < 8 { i = 0; while i < 7 { if a[i + 1] < a[i] { let v = a[i]; a[i] = a[i + 1]; a[i + 1] = v; } i = i + 1; } j = j + 1; } root = a; while i { out a[i]; i = i - 1; } return a; }",
	"fn main() { return main(); }",
	"fn main() { let x = in(); let y = x / (x - 6); out y; let z = y; stop z; }",
	"fn main() { let x = 5; if in() { x = f(x, in()); } else { x = null; } out -x; return x + null; } fn f(a, b) { b = a; return f2(b) - ~a; } fn f2(a) { let c = 3; c = !a; return c; }",
}

func TestEnoughOfDescriptions(t *testing.T) { // P12.3
	m := chancer{rand.New(rand.NewSource(129))}
	for _, s := range descriptions {
		nodes, _, at, e := check.Source(s)
		if e != api.OK {
			t.Fatal(s, at, e)
		}
		c, at, e := lower.Code(nodes)
		if e != api.OK {
			t.Fatal(s, at, e)
		}
		for fuel := 10; fuel < 3000; fuel *= 3 {
			g := given{[]int64{3, 1, 2}, []int64{6, 0, 9}, api.Limits{Fuel: fuel, Depth: 20, Cells: 100}, 1000000}
			a, _ := m.wantEnough(t, c, g)
			if r, h, _ := sem.Run(nodes, g.image, g.input, g.lim); !sem.Same(a.result, a.heap, r, h) {
				t.Error(s, a.result, r)
			}
		}
	}
}

// TestNotLessThanEnough: in straight code each register that is live counts: if it is changed the run goes otherwise.
func TestNotLessThanEnough(t *testing.T) { // P12.1
	m := chancer{rand.New(rand.NewSource(130))}
	for range 300 {
		f := of(5)
		for range 1 + m.Intn(12) {
			a, b, c := m.Intn(5), m.Intn(5), m.Intn(5)
			f.Code = append(f.Code, []api.Ins{num(a), move(a, b), add(a, b, c), out(a), merge(0, b, c)}[m.Intn(5)])
		}
		f.Code = append(f.Code, ret(m.Intn(5)))
		c := api.Code{Funcs: []api.Func{f}}
		g := given{lim: api.Limits{Depth: 1}, most: len(f.Code)}
		tables, want := Tables(f), run(c, g, nothing)
		for at := range f.Code {
			for r := range f.Regs {
				got := run(c, g, func(a *machine) {
					if len(a.did) == at {
						a.frames[0].Regs[r].N += 1000
					}
				})
				if slices.Equal(got.did, want.did) == slices.Contains(tables[at], r) {
					t.Fatal("register", r, "at", at, "of", shown(c))
				}
			}
		}
	}
}
