package live

import (
	"swath/api"
	"swath/arith"
	"swath/heap"
)

// machine does code instruction by instruction, as chapters 10 and 13 say, and writes down what it did.
type machine struct {
	code   api.Code
	given  given
	heap   *heap.Heap
	frames []api.Frame
	ended  bool
	result api.Result
	did    []moment
}

// given is what a run is given beside the code; of most instructions no more are done.
type given struct {
	image, input []int64
	lim          api.Limits
	most         int
}

// moment is an instruction that was done: how many calls stood, where it stands, the values that it read.
type moment struct {
	depth, fn, pc int
	read          [6]api.Value
}

// run does code from its beginning; change is called ahead of each instruction.
func run(c api.Code, g given, change func(m *machine)) *machine {
	m := &machine{code: c, given: g, heap: heap.New(g.lim.Cells)}
	m.enter(c.Main, nil, -1)
	for !m.ended && len(m.did) < g.most {
		change(m)
		m.next()
	}
	m.result.Cells = m.heap.Used()
	return m
}

func (m *machine) end(how int, v api.Value, trap int) {
	m.ended = true
	m.result.End, m.result.Value, m.result.Trap = how, v, trap
}

func (m *machine) enter(fn int, arguments []api.Value, into int) {
	regs := make([]api.Value, m.code.Funcs[fn].Regs)
	copy(regs, arguments)
	m.frames = append(m.frames, api.Frame{Fn: fn, Regs: regs, Into: into})
}

func (m *machine) next() {
	f := &m.frames[len(m.frames)-1]
	i := m.code.Funcs[f.Fn].Code[f.Pc]
	now := moment{depth: len(m.frames), fn: f.Fn, pc: f.Pc}
	copy(now.read[:], values(f, column(i, 0)))
	m.did = append(m.did, now)
	if trap := m.do(f, i); trap != 0 {
		m.end(api.EndTrap, api.Value{}, trap)
	}
}

// values are those of some registers.
func values(f *api.Frame, registers []int) []api.Value {
	var l []api.Value
	for _, n := range registers {
		l = append(l, f.Regs[n])
	}
	return l
}

// do does what takes the code elsewhere than to the next instruction, or hands on to work.
func (m *machine) do(f *api.Frame, i api.Ins) int {
	f.Pc++
	switch i.Op {
	case api.InsJump:
		f.Pc = int(i.K)
	case api.InsZero:
		if f.Regs[i.A].Kind != api.Int {
			return api.TrapType
		}
		if f.Regs[i.A].N == 0 {
			f.Pc = int(i.K)
		}
	case api.InsCall:
		if len(m.frames) >= min(max(1, m.given.lim.Depth), api.MaxDepth) {
			return api.TrapDepth
		}
		m.enter(int(i.K), values(f, i.L), i.A)
	case api.InsRet:
		m.leave(f.Regs[i.A], f.Into)
	case api.InsStop:
		m.end(api.EndHalt, f.Regs[i.A], 0)
	case api.InsStep:
		if m.result.Steps >= m.given.lim.Fuel {
			m.end(api.EndFuel, api.Value{}, 0)
			return 0
		}
		m.result.Steps++
	case api.InsMerge:
	default:
		return m.work(f.Regs, i)
	}
	return 0
}

// leave has the last frame go, with what it answers.
func (m *machine) leave(v api.Value, into int) {
	m.frames = m.frames[:len(m.frames)-1]
	if len(m.frames) == 0 {
		m.end(api.EndHalt, v, 0)
		return
	}
	m.frames[len(m.frames)-1].Regs[into] = v
}

// work does an instruction that makes a value or lays one down.
func (m *machine) work(r []api.Value, i api.Ins) int {
	switch i.Op {
	case api.InsOut:
		if r[i.A].Kind != api.Int {
			return api.TrapType
		}
		m.result.Out = append(m.result.Out, r[i.A].N)
		return 0
	case api.InsPut:
		return m.heap.SetField(r[i.A], int(i.K), i.C, r[i.B])
	case api.InsSetElem:
		return m.heap.SetElem(r[i.A], r[i.B], r[i.C])
	case api.InsSetRoot:
		m.heap.SetRoot(r[i.A])
		return 0
	}
	v, trap := m.made(r, i)
	if trap == 0 {
		r[i.A] = v
	}
	return trap
}

// made is the value that an instruction makes.
func (m *machine) made(r []api.Value, i api.Ins) (api.Value, int) {
	switch i.Op {
	case api.InsNum:
		return whole(i.K), 0
	case api.InsNull:
		return null, 0
	case api.InsMove, api.InsPromote:
		return r[i.B], 0
	case api.InsBin:
		return calculated(i.K, r[i.B], r[i.C])
	case api.InsUn:
		return calculated(i.K, r[i.B], whole(0))
	case api.InsEq:
		return truth(r[i.B] == r[i.C]), 0
	case api.InsNe:
		return truth(r[i.B] != r[i.C]), 0
	case api.InsGet:
		return m.heap.Field(r[i.B], int(i.K), i.C)
	case api.InsElem:
		return m.heap.Elem(r[i.B], r[i.C])
	case api.InsLen:
		return m.heap.Len(r[i.B])
	case api.InsNew:
		return m.heap.Rec(int(i.K), i.C)
	case api.InsArr:
		return m.heap.Arr(r[i.B])
	case api.InsIn:
		return m.read(), 0
	case api.InsImg:
		return m.imaged(r[i.B])
	case api.InsSize:
		return whole(int64(len(m.given.image))), 0
	case api.InsRoot:
		return m.heap.Root(), 0
	}
	panic("no such instruction")
}

func calculated(op int64, a, b api.Value) (api.Value, int) {
	if a.Kind != api.Int || b.Kind != api.Int {
		return api.Value{}, api.TrapType
	}
	n, trap := arith.Do(int(op), a.N, b.N)
	return whole(n), trap
}

func (m *machine) read() api.Value {
	if m.result.Read == len(m.given.input) {
		return null
	}
	m.result.Read++
	return whole(m.given.input[m.result.Read-1])
}

func (m *machine) imaged(v api.Value) (api.Value, int) {
	if v.Kind != api.Int {
		return api.Value{}, api.TrapType
	}
	if v.N < 0 || v.N >= int64(len(m.given.image)) {
		return api.Value{}, api.TrapIndex
	}
	return whole(m.given.image[v.N]), 0
}

func truth(yes bool) api.Value {
	if yes {
		return whole(1)
	}
	return whole(0)
}

func whole(n int64) api.Value { return api.Value{N: n} }

var null = api.Value{Kind: api.Null}
