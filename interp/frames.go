package interp

import (
	"slices"

	"swath/api"
)

// enter has a call of a function stand last, and answers its registers, which are all the number 0.
func (m *Machine) enter(fn, into int) []api.Value {
	regs := make([]api.Value, m.code.Funcs[fn].Regs)
	m.frames = append(m.frames, api.Frame{Fn: fn, Regs: regs, Into: into})
	return regs
}

// last is the frame whose instruction comes next.
func (m *Machine) last() *api.Frame {
	return &m.frames[len(m.frames)-1]
}

// here is the instruction that comes next.
func (m *Machine) here() *api.Ins {
	f := m.last()
	return &m.code.Funcs[f.Fn].Code[f.Pc]
}

// Frames are the calls, the first one first: P13.4.
func (m *Machine) Frames() []api.Frame {
	if !m.alive() {
		return nil
	}
	return copiedFrames(m.frames)
}

// SetFrames lays down the calls: P13.4.
func (m *Machine) SetFrames(l []api.Frame) api.Errno {
	if !m.alive() {
		return api.ErrNone
	}
	if !m.mayStand(l) {
		return api.ErrRange
	}
	if m.ended {
		return api.ErrNone
	}
	m.frames = copiedFrames(l)
	return api.OK
}

// mayStand tells whether these may be the calls.
func (m *Machine) mayStand(l []api.Frame) bool {
	if len(l) == 0 || len(l) > m.depth {
		return false
	}
	for n, f := range l {
		if !m.isCall(f) {
			return false
		}
		if n == 0 && f.Into != -1 {
			return false
		}
		if n > 0 && !within(f.Into, len(l[n-1].Regs)) {
			return false
		}
	}
	return true
}

// isCall tells whether a frame, by itself, may be a call of one of the functions.
func (m *Machine) isCall(f api.Frame) bool {
	if !within(f.Fn, len(m.code.Funcs)) {
		return false
	}
	of := &m.code.Funcs[f.Fn]
	return within(f.Pc, len(of.Code)) && len(f.Regs) == of.Regs
}

// within tells whether n is one of so many, counted from 0.
func within(n, count int) bool {
	return n >= 0 && n < count
}

// Here is the instruction that comes next, if one does: P13.4.
func (m *Machine) Here() (api.Ins, bool) {
	if !m.goesOn() {
		return api.Ins{}, false
	}
	return copiedIns(*m.here()), true
}

// Reg is a register of the last frame: P13.4.
func (m *Machine) Reg(n int) api.Value {
	if !m.alive() || len(m.frames) == 0 || !within(n, len(m.last().Regs)) {
		return api.Value{}
	}
	return m.last().Regs[n]
}

// Depth is how many calls may stand: P13.4.
func (m *Machine) Depth() int {
	if !m.alive() {
		return 0
	}
	return m.depth
}

// At is the last frame's function and place, and how many frames there are: P13.4.
func (m *Machine) At() (int, int, int) {
	if !m.goesOn() {
		return 0, 0, 0
	}
	f := m.last()
	return f.Fn, f.Pc, len(m.frames)
}

// Func is a function of the code: P13.4.
func (m *Machine) Func(n int) api.Func {
	if !m.alive() || !within(n, len(m.code.Funcs)) {
		return api.Func{}
	}
	return copiedFunc(m.code.Funcs[n])
}

// The copies share no memory with what they are made of.

func copiedFrames(l []api.Frame) []api.Frame {
	frames := slices.Clone(l)
	for n := range frames {
		frames[n].Regs = slices.Clone(frames[n].Regs)
	}
	return frames
}

func copiedCode(c api.Code) api.Code {
	c.Funcs = slices.Clone(c.Funcs)
	for n, f := range c.Funcs {
		c.Funcs[n] = copiedFunc(f)
	}
	return c
}

func copiedFunc(f api.Func) api.Func {
	f.Code = slices.Clone(f.Code)
	for n, i := range f.Code {
		f.Code[n] = copiedIns(i)
	}
	return f
}

func copiedIns(i api.Ins) api.Ins {
	i.L = slices.Clone(i.L)
	return i
}
