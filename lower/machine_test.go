package lower

import (
	"swath/api"
	"swath/arith"
	"swath/heap"
)

// machine does code instruction by instruction, as chapters 10 and 13 say, and as slowly as they say it.
type machine struct {
	code   api.Code
	given  given
	heap   *heap.Heap
	frames []api.Frame
	ended  bool
	result api.Result
	// idle is how many instructions have been done since the last step, stall the most that there were between two.
	idle, stall int
	// met and called, if there are any, are told of each merge and each call with the values of their registers.
	met    func(merge int64, greens []api.Value)
	called func(name string, arguments []api.Value)
}

// given is what a run is given beside the description.
type given struct {
	image, input []int64
	lim          api.Limits
}

// idleEnd is how many instructions without a step end a run.
const idleEnd = 1000000

func machineOf(c api.Code, g given) *machine {
	m := &machine{code: c, given: g, heap: heap.New(g.lim.Cells)}
	m.enter(c.Main, nil, -1)
	return m
}

func (m *machine) run() (api.Result, *heap.Heap) {
	for !m.ended {
		m.next()
	}
	m.result.Cells = m.heap.Used()
	return m.result, m.heap
}

func (m *machine) end(how int, v api.Value, trap int) {
	m.ended = true
	m.result.End, m.result.Value, m.result.Trap = how, v, trap
}

func (m *machine) enter(fn int, arguments []api.Value, into int) {
	regs := make([]api.Value, m.code.Funcs[fn].Regs)
	copy(regs, arguments)
	m.frames = append(m.frames, api.Frame{Fn: fn, Regs: regs, Into: into})
}

func (m *machine) depth() int { return min(max(1, m.given.lim.Depth), 1000) }

// next does the next instruction.
func (m *machine) next() {
	if m.idle == idleEnd {
		m.end(api.EndFuel, api.Value{}, 0)
		return
	}
	m.idle++
	m.stall = max(m.stall, m.idle)
	f := &m.frames[len(m.frames)-1]
	i := m.code.Funcs[f.Fn].Code[f.Pc]
	if trap := m.do(f, i); trap != 0 {
		m.end(api.EndTrap, api.Value{}, trap)
	}
}

// values are those of some registers.
func values(f *api.Frame, numbers []int) []api.Value {
	var l []api.Value
	for _, n := range numbers {
		l = append(l, f.Regs[n])
	}
	return l
}

// do does what takes the code elsewhere than to the next instruction, or hands on to work.
func (m *machine) do(f *api.Frame, i api.Ins) int {
	f.Pc++
	switch i.Op {
	case api.InsJump:
		f.Pc = int(i.K)
	case api.InsZero:
		if f.Regs[i.A].Kind != api.Int {
			return api.TrapType
		}
		if f.Regs[i.A].N == 0 {
			f.Pc = int(i.K)
		}
	case api.InsCall:
		if len(m.frames) >= m.depth() {
			return api.TrapDepth
		}
		arguments := values(f, i.L)
		if m.called != nil {
			m.called(m.code.Funcs[i.K].Name, arguments)
		}
		m.enter(int(i.K), arguments, i.A)
	case api.InsRet:
		v, into := f.Regs[i.A], f.Into
		m.frames = m.frames[:len(m.frames)-1]
		if len(m.frames) == 0 {
			m.end(api.EndHalt, v, 0)
			return 0
		}
		m.frames[len(m.frames)-1].Regs[into] = v
	case api.InsStop:
		m.end(api.EndHalt, f.Regs[i.A], 0)
	case api.InsStep:
		if m.result.Steps >= m.given.lim.Fuel {
			m.end(api.EndFuel, api.Value{}, 0)
			return 0
		}
		m.result.Steps++
		m.idle = 0
	case api.InsMerge:
		if m.met != nil {
			m.met(i.K, values(f, i.L))
		}
	default:
		return m.work(f, i)
	}
	return 0
}

// work does an instruction that makes a value or lays one down.
func (m *machine) work(f *api.Frame, i api.Ins) (trap int) {
	r := f.Regs
	switch i.Op {
	case api.InsOut:
		if r[i.A].Kind != api.Int {
			return api.TrapType
		}
		m.result.Out = append(m.result.Out, r[i.A].N)
		return 0
	case api.InsPut:
		return m.heap.SetField(r[i.A], int(i.K), i.C, r[i.B])
	case api.InsSetElem:
		return m.heap.SetElem(r[i.A], r[i.B], r[i.C])
	case api.InsSetRoot:
		m.heap.SetRoot(r[i.A])
		return 0
	}
	v, trap := m.made(r, i)
	if trap == 0 {
		r[i.A] = v
	}
	return trap
}

// made is the value that an instruction makes.
func (m *machine) made(r []api.Value, i api.Ins) (api.Value, int) {
	switch i.Op {
	case api.InsNum:
		return num(i.K), 0
	case api.InsNull:
		return null, 0
	case api.InsMove, api.InsPromote:
		return r[i.B], 0
	case api.InsBin:
		return calculated(i.K, r[i.B], r[i.C])
	case api.InsUn:
		return calculated(i.K, r[i.B], num(0))
	case api.InsEq:
		return truth(r[i.B] == r[i.C]), 0
	case api.InsNe:
		return truth(r[i.B] != r[i.C]), 0
	case api.InsGet:
		return m.heap.Field(r[i.B], int(i.K), i.C)
	case api.InsElem:
		return m.heap.Elem(r[i.B], r[i.C])
	case api.InsLen:
		return m.heap.Len(r[i.B])
	case api.InsNew:
		return m.heap.Rec(int(i.K), i.C)
	case api.InsArr:
		return m.heap.Arr(r[i.B])
	case api.InsIn:
		return m.read(), 0
	case api.InsImg:
		return m.imaged(r[i.B])
	case api.InsSize:
		return num(int64(len(m.given.image))), 0
	case api.InsRoot:
		return m.heap.Root(), 0
	}
	panic("no such instruction")
}

func calculated(op int64, a, b api.Value) (api.Value, int) {
	if a.Kind != api.Int || b.Kind != api.Int {
		return api.Value{}, api.TrapType
	}
	n, trap := arith.Do(int(op), a.N, b.N)
	return num(n), trap
}

func truth(yes bool) api.Value {
	if yes {
		return num(1)
	}
	return num(0)
}

func (m *machine) read() api.Value {
	if m.result.Read == len(m.given.input) {
		return null
	}
	m.result.Read++
	return num(m.given.input[m.result.Read-1])
}

func (m *machine) imaged(v api.Value) (api.Value, int) {
	if v.Kind != api.Int {
		return api.Value{}, api.TrapType
	}
	if v.N < 0 || v.N >= int64(len(m.given.image)) {
		return api.Value{}, api.TrapIndex
	}
	return num(m.given.image[v.N]), 0
}

func num(n int64) api.Value { return api.Value{N: n} }

var null = api.Value{Kind: api.Null}
