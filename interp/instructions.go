package interp

import (
	"swath/api"
	"swath/arith"
)

// way does an instruction of the last frame, and has the frame go on behind it. Where it traps it has changed nothing.
type way func(*Machine, *api.Frame, *api.Ins)

// ways are how instructions are done, by their numbers.
func ways() [api.InsPromote + 1]way {
	return [api.InsPromote + 1]way{
		api.InsNum:     (*Machine).doNum,
		api.InsNull:    (*Machine).doNull,
		api.InsMove:    (*Machine).doMove,
		api.InsBin:     (*Machine).doBin,
		api.InsUn:      (*Machine).doUn,
		api.InsEq:      (*Machine).doEq,
		api.InsNe:      (*Machine).doNe,
		api.InsGet:     (*Machine).doGet,
		api.InsPut:     (*Machine).doPut,
		api.InsElem:    (*Machine).doElem,
		api.InsSetElem: (*Machine).doSetElem,
		api.InsLen:     (*Machine).doLen,
		api.InsNew:     (*Machine).doNew,
		api.InsArr:     (*Machine).doArr,
		api.InsIn:      (*Machine).doIn,
		api.InsOut:     (*Machine).doOut,
		api.InsImg:     (*Machine).doImg,
		api.InsSize:    (*Machine).doSize,
		api.InsRoot:    (*Machine).doRoot,
		api.InsSetRoot: (*Machine).doSetRoot,
		api.InsJump:    (*Machine).doJump,
		api.InsZero:    (*Machine).doZero,
		api.InsCall:    (*Machine).doCall,
		api.InsRet:     (*Machine).doRet,
		api.InsStop:    (*Machine).doStop,
		api.InsStep:    (*Machine).doStep,
		api.InsMerge:   (*Machine).doMerge,
		api.InsPromote: (*Machine).doMove,
	}
}

// written ends an instruction that makes a value: it is laid into register A, unless there is a trap beside it.
func written(f *api.Frame, i *api.Ins, v api.Value, trap int) {
	trapped(trap)
	f.Regs[i.A] = v
	f.Pc++
}

// done ends an instruction that makes no value.
func done(f *api.Frame, trap int) {
	trapped(trap)
	f.Pc++
}

// calculated is what an operation makes of two values.
func calculated(op int64, a, b api.Value) (api.Value, int) {
	if a.Kind != api.Int || b.Kind != api.Int {
		return api.Value{}, api.TrapType
	}
	n, trap := arith.Do(int(op), a.N, b.N)
	return api.Value{N: n}, trap
}

func truth(yes bool) api.Value {
	if yes {
		return api.Value{N: 1}
	}
	return api.Value{}
}

func (m *Machine) doNum(f *api.Frame, i *api.Ins) {
	written(f, i, api.Value{N: i.K}, 0)
}

func (m *Machine) doNull(f *api.Frame, i *api.Ins) {
	written(f, i, api.Value{Kind: api.Null}, 0)
}

func (m *Machine) doMove(f *api.Frame, i *api.Ins) {
	written(f, i, f.Regs[i.B], 0)
}

func (m *Machine) doBin(f *api.Frame, i *api.Ins) {
	v, trap := calculated(i.K, f.Regs[i.B], f.Regs[i.C])
	written(f, i, v, trap)
}

func (m *Machine) doUn(f *api.Frame, i *api.Ins) {
	v, trap := calculated(i.K, f.Regs[i.B], api.Value{})
	written(f, i, v, trap)
}

func (m *Machine) doEq(f *api.Frame, i *api.Ins) {
	written(f, i, truth(f.Regs[i.B] == f.Regs[i.C]), 0)
}

func (m *Machine) doNe(f *api.Frame, i *api.Ins) {
	written(f, i, truth(f.Regs[i.B] != f.Regs[i.C]), 0)
}

func (m *Machine) doGet(f *api.Frame, i *api.Ins) {
	v, trap := m.heap.Field(f.Regs[i.B], int(i.K), i.C)
	written(f, i, v, trap)
}

func (m *Machine) doPut(f *api.Frame, i *api.Ins) {
	done(f, m.heap.SetField(f.Regs[i.A], int(i.K), i.C, f.Regs[i.B]))
}

func (m *Machine) doElem(f *api.Frame, i *api.Ins) {
	v, trap := m.heap.Elem(f.Regs[i.B], f.Regs[i.C])
	written(f, i, v, trap)
}

func (m *Machine) doSetElem(f *api.Frame, i *api.Ins) {
	done(f, m.heap.SetElem(f.Regs[i.A], f.Regs[i.B], f.Regs[i.C]))
}

func (m *Machine) doLen(f *api.Frame, i *api.Ins) {
	v, trap := m.heap.Len(f.Regs[i.B])
	written(f, i, v, trap)
}

func (m *Machine) doNew(f *api.Frame, i *api.Ins) {
	v, trap := m.heap.Rec(int(i.K), i.C)
	written(f, i, v, trap)
}

func (m *Machine) doArr(f *api.Frame, i *api.Ins) {
	v, trap := m.heap.Arr(f.Regs[i.B])
	written(f, i, v, trap)
}

func (m *Machine) doIn(f *api.Frame, i *api.Ins) {
	written(f, i, m.In(), 0)
}

func (m *Machine) doOut(f *api.Frame, i *api.Ins) {
	done(f, m.Out(f.Regs[i.A]))
}

func (m *Machine) doImg(f *api.Frame, i *api.Ins) {
	v, trap := m.Img(f.Regs[i.B])
	written(f, i, v, trap)
}

func (m *Machine) doSize(f *api.Frame, i *api.Ins) {
	written(f, i, api.Value{N: int64(len(m.image))}, 0)
}

func (m *Machine) doRoot(f *api.Frame, i *api.Ins) {
	written(f, i, m.heap.Root(), 0)
}

func (m *Machine) doSetRoot(f *api.Frame, i *api.Ins) {
	m.heap.SetRoot(f.Regs[i.A])
	done(f, 0)
}

func (m *Machine) doJump(f *api.Frame, i *api.Ins) {
	f.Pc = int(i.K)
}

func (m *Machine) doZero(f *api.Frame, i *api.Ins) {
	asked := f.Regs[i.A]
	if asked.Kind != api.Int {
		trapped(api.TrapType)
	}
	if asked.N == 0 {
		f.Pc = int(i.K)
	} else {
		f.Pc++
	}
}

func (m *Machine) doCall(f *api.Frame, i *api.Ins) {
	if len(m.frames) == m.depth {
		trapped(api.TrapDepth)
	}
	f.Pc++
	// Taken ahead: with one more frame all of them may lie elsewhere.
	from := f.Regs
	regs := m.enter(int(i.K), i.A)
	for n, r := range i.L {
		regs[n] = from[r]
	}
}

func (m *Machine) doRet(f *api.Frame, i *api.Ins) {
	value, into := f.Regs[i.A], f.Into
	m.frames = m.frames[:len(m.frames)-1]
	if len(m.frames) == 0 {
		panic(ending{end: api.EndHalt, value: value})
	}
	m.last().Regs[into] = value
}

// doStop leaves the calls as they stand.
func (m *Machine) doStop(f *api.Frame, i *api.Ins) {
	panic(ending{end: api.EndHalt, value: f.Regs[i.A]})
}

func (m *Machine) doStep(f *api.Frame, _ *api.Ins) {
	if !m.Step() {
		panic(ending{end: api.EndFuel})
	}
	f.Pc++
}

func (m *Machine) doMerge(f *api.Frame, _ *api.Ins) {
	done(f, 0)
}
