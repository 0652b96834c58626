package lower

import (
	"strings"

	"swath/api"
)

// maker makes the functions of a description into code, one behind the other; merges is how many it has come to in all of them.
type maker struct {
	words
	nodes       []api.Node
	statements  map[int]statement
	places      map[int]place
	expressions map[int]expression
	merges      int
	body
}

// body is as much of a function as is made: registers from free on hold nothing that is still asked for, below regs are all that
// were ever taken, and met is the last place that a jump ahead was led to.
type body struct {
	code      []api.Ins
	variables map[string]int
	free      int
	regs      int
	met       int
}

func (m *maker) function(f api.Fn) api.Func {
	m.body = body{variables: map[string]int{}}
	for _, name := range f.Vars[:f.Params] {
		m.variables[name] = m.take()
	}
	m.block(m.nodes[f.Node].Kids[f.Params])
	if m.open() {
		m.emit(api.Ins{Op: api.InsRet, A: m.laid(api.Ins{Op: api.InsNum})})
	}
	return api.Func{Name: strings.Clone(f.Name), Params: f.Params, Regs: m.regs, Code: m.code}
}

// take is a register that was free.
func (m *maker) take() int {
	m.free++
	m.regs = max(m.regs, m.free)
	return m.free - 1
}

func (m *maker) emit(i api.Ins) {
	m.code = append(m.code, i)
}

// laid emits an instruction that makes a value, and answers the register that it is laid into.
func (m *maker) laid(i api.Ins) int {
	i.A = m.take()
	m.emit(i)
	return i.A
}

// ahead emits a jump or a zero whose place is not known yet, and answers what leads it to where the code has come by then.
func (m *maker) ahead(i api.Ins) func() {
	at := len(m.code)
	m.emit(i)
	return func() {
		m.met = len(m.code)
		m.code[at].K = int64(m.met)
	}
}

// open tells whether what is emitted next may be come to, by a jump ahead or from the instruction just ahead of it.
func (m *maker) open() bool {
	at := len(m.code)
	return at == m.met || !endsWay(m.code[at-1].Op)
}

// endsWay tells whether code never goes on just behind such an instruction.
func endsWay(op int) bool {
	return op == api.InsJump || op == api.InsRet || op == api.InsStop
}
