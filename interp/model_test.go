package interp

import (
	"slices"
	"testing"

	"swath/api"
	"swath/arith"
)

// model is a run with things of its own. An instruction is done on a copy of it, which takes its place only where nothing traps.
type model struct {
	code    api.Code
	given   given
	frames  []api.Frame
	things  []api.Obj
	used    int
	root    api.Value
	read    int
	out     []int64
	steps   int
	idle    int
	ended   bool
	outcome api.Result
}

func modelOf(c api.Code, g given) model {
	m := model{code: c, given: g}
	m.frames = []api.Frame{{Fn: c.Main, Regs: make([]api.Value, c.Funcs[c.Main].Regs), Into: -1}}
	return m
}

// takenOver is a model that stands as a machine does.
func takenOver(m *Machine, c api.Code, g given) model {
	r, h := m.Result(), m.Heap()
	return model{code: c, given: g, frames: m.Frames(), things: things(h), used: h.Used(), root: h.Root(), read: r.Read, out: r.Out, steps: r.Steps}
}

func (m model) copied() model {
	m.frames = slices.Clone(m.frames)
	for n, f := range m.frames {
		m.frames[n].Regs = slices.Clone(f.Regs)
	}
	m.things = slices.Clone(m.things)
	for n, o := range m.things {
		m.things[n].Cells = slices.Clone(o.Cells)
	}
	m.out = slices.Clone(m.out)
	return m
}

// standing is told as that of a machine.
func (m model) standing() string {
	return told(m.frames, m.result(), m.root, m.things)
}

func (m model) result() api.Result {
	r := api.Result{End: api.EndFuel}
	if m.ended {
		r = m.outcome
	}
	r.Out, r.Read, r.Steps, r.Cells = m.out, m.read, m.steps, m.used
	return r
}

func (m *model) end(how int, v api.Value, trap int) {
	m.ended, m.outcome = true, api.Result{End: how, Value: v, Trap: trap}
}

// next does an instruction.
func (m *model) next() {
	if m.idle == 1000000 {
		m.end(api.EndFuel, api.Value{}, 0)
		return
	}
	n := m.copied()
	n.idle++
	if trap := n.do(); trap != 0 {
		m.end(api.EndTrap, api.Value{}, trap)
		return
	}
	if n.ended && n.outcome.End == api.EndFuel {
		m.end(api.EndFuel, api.Value{}, 0)
		return
	}
	*m = n
}

// do does an instruction on a model that is thrown away if it traps.
func (m *model) do() int {
	f := &m.frames[len(m.frames)-1]
	i := m.code.Funcs[f.Fn].Code[f.Pc]
	r := f.Regs
	switch i.Op {
	case api.InsJump:
		f.Pc = int(i.K)
		return 0
	case api.InsZero:
		f.Pc++
		if r[i.A] == num(0) {
			f.Pc = int(i.K)
		}
		return wantInts(r[i.A])
	case api.InsStop:
		m.end(api.EndHalt, r[i.A], 0)
		return 0
	case api.InsRet:
		m.leave(r[i.A], f.Into)
		return 0
	}
	f.Pc++
	switch i.Op {
	case api.InsMerge:
	case api.InsStep:
		if m.steps >= m.given.lim.Fuel {
			m.end(api.EndFuel, api.Value{}, 0)
		}
		m.steps, m.idle = m.steps+1, 0
	case api.InsCall:
		return m.call(r, i)
	case api.InsOut:
		m.out = append(m.out, r[i.A].N)
		return wantInts(r[i.A])
	case api.InsSetRoot:
		m.root = r[i.A]
	case api.InsPut:
		cell, trap := m.cell(r[i.A], int(i.K), num(int64(i.C)))
		*cell = r[i.B]
		return trap
	case api.InsSetElem:
		cell, trap := m.cell(r[i.A], -1, r[i.B])
		*cell = r[i.C]
		return trap
	default:
		v, trap := m.value(r, i)
		r[i.A] = v
		return trap
	}
	return 0
}

func (m *model) leave(v api.Value, into int) {
	m.frames = m.frames[:len(m.frames)-1]
	if len(m.frames) == 0 {
		m.end(api.EndHalt, v, 0)
		return
	}
	m.frames[len(m.frames)-1].Regs[into] = v
}

func (m *model) call(r []api.Value, i api.Ins) int {
	if len(m.frames) >= max(1, min(1000, m.given.lim.Depth)) {
		return api.TrapDepth
	}
	f := api.Frame{Fn: int(i.K), Into: i.A}
	for _, n := range i.L {
		f.Regs = append(f.Regs, r[n])
	}
	for len(f.Regs) < m.code.Funcs[i.K].Regs {
		f.Regs = append(f.Regs, num(0))
	}
	m.frames = append(m.frames, f)
	return 0
}

// value is what an instruction that writes makes.
func (m *model) value(r []api.Value, i api.Ins) (api.Value, int) {
	switch i.Op {
	case api.InsNum:
		return num(i.K), 0
	case api.InsNull:
		return null, 0
	case api.InsMove, api.InsPromote:
		return r[i.B], 0
	case api.InsBin:
		n, trap := arith.Do(int(i.K), r[i.B].N, r[i.C].N)
		return num(n), max(trap, wantInts(r[i.B], r[i.C]))
	case api.InsUn:
		n, trap := arith.Do(int(i.K), r[i.B].N, 0)
		return num(n), max(trap, wantInts(r[i.B]))
	case api.InsEq:
		return num(map[bool]int64{true: 1}[r[i.B].Kind == r[i.C].Kind && r[i.B].N == r[i.C].N]), 0
	case api.InsNe:
		return num(map[bool]int64{true: 1}[r[i.B].Kind != r[i.C].Kind || r[i.B].N != r[i.C].N]), 0
	case api.InsGet:
		cell, trap := m.cell(r[i.B], int(i.K), num(int64(i.C)))
		return *cell, trap
	case api.InsElem:
		cell, trap := m.cell(r[i.B], -1, r[i.C])
		return *cell, trap
	case api.InsLen:
		o, trap := m.thing(r[i.B], -1)
		return num(int64(len(o.Cells))), trap
	case api.InsNew:
		return m.make(int(i.K), num(int64(i.C)))
	case api.InsArr:
		return m.make(-1, r[i.B])
	case api.InsSize:
		return num(int64(len(m.given.image))), 0
	case api.InsRoot:
		return m.root, 0
	case api.InsIn:
		if m.read == len(m.given.input) {
			return null, 0
		}
		m.read++
		return num(m.given.input[m.read-1]), 0
	}
	return m.img(r[i.B])
}

func (m *model) img(v api.Value) (api.Value, int) {
	if trap := wantInts(v); trap != 0 {
		return v, trap
	}
	for n, x := range m.given.image {
		if v == num(int64(n)) {
			return num(x), 0
		}
	}
	return v, api.TrapIndex
}

// wantInts is TrapType, if one of some values is no number.
func wantInts(l ...api.Value) int {
	for _, v := range l {
		if v.Kind != api.Int {
			return api.TrapType
		}
	}
	return 0
}

// thing is a thing that must be a record of a sort, or an array.
func (m *model) thing(v api.Value, rec int) (api.Obj, int) {
	if v.Kind == api.Null {
		return api.Obj{}, api.TrapNull
	}
	if v.Kind != api.Ref || v.N < 0 || v.N >= int64(len(m.things)) || m.things[v.N].Rec != rec {
		return api.Obj{}, api.TrapType
	}
	return m.things[v.N], 0
}

// cell is a cell of such a thing; one of nobody's where it traps.
func (m *model) cell(v api.Value, rec int, at api.Value) (*api.Value, int) {
	o, trap := m.thing(v, rec)
	if trap == 0 {
		trap = wantInts(at)
	}
	if trap == 0 && (at.N < 0 || at.N >= int64(len(o.Cells))) {
		trap = api.TrapIndex
		if rec >= 0 {
			trap = api.TrapType
		}
	}
	if trap != 0 {
		return &api.Value{}, trap
	}
	return &o.Cells[at.N], 0
}

func (m *model) make(rec int, n api.Value) (api.Value, int) {
	if trap := wantInts(n); trap != 0 {
		return n, trap
	}
	if n.N < 0 {
		return n, api.TrapIndex
	}
	if left := int64(max(0, min(10000000, m.given.lim.Cells)) - m.used); n.N >= left {
		return n, api.TrapCells
	}
	m.used += 1 + int(n.N)
	m.things = append(m.things, api.Obj{Rec: rec, Cells: make([]api.Value, n.N)})
	return ref(int64(len(m.things) - 1)), 0
}

// wantAsModel wants a machine to stand, and to have ended or not, as a model.
func wantAsModel(t testing.TB, m *Machine, want model) {
	t.Helper()
	if got := standing(m); got != want.standing() {
		t.Fatalf("%s\nwanted\n%s\nin\n%.2000s", got, want.standing(), shown(want.code))
	}
	if r := m.Result(); !sameResult(r, want.result()) {
		t.Fatalf("%v; wanted %v in\n%.2000s", r, want.result(), shown(want.code))
	}
	i, is := m.Here()
	fn, pc, n := m.At()
	if is == want.ended || want.ended && (i.Op != 0 || fn != 0 || pc != 0 || n != 0) {
		t.Fatal(i, is, fn, pc, n, "but it has ended:", want.ended)
	}
	if want.ended {
		return
	}
	last := want.frames[len(want.frames)-1]
	if fn != last.Fn || pc != last.Pc || n != len(want.frames) || !sameIns(i, want.code.Funcs[fn].Code[pc]) {
		t.Fatal(i, fn, pc, n, "but it stands at", last)
	}
}

func sameIns(a, b api.Ins) bool {
	return a.Op == b.Op && a.A == b.A && a.B == b.B && a.C == b.C && a.K == b.K && slices.Equal(a.L, b.L)
}

// wantNext wants the next instruction to do what it does in a model; it answers whether the run goes on.
func wantNext(t testing.TB, m *Machine, want *model) bool {
	t.Helper()
	want.next()
	if went := m.Next(); (went == api.Ended) != want.ended || went != api.GoOn && went != api.Ended {
		t.Fatalf("%d; wanted ended %v in\n%.2000s", went, want.ended, shown(want.code))
	}
	wantAsModel(t, m, *want)
	return !want.ended
}
