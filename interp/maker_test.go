package interp

import (
	"fmt"
	"math/rand"
	"strings"

	"swath/api"
)

// maker makes code, values and descriptions by chance.
type maker struct{ *rand.Rand }

// The registers of code made by chance: numbers, then two for records of sort 0 and one of sort 1, two for arrays, two for anything.
const (
	numbersEnd = 5
	anyFrom    = 10
	makerRegs  = 12
)

func (m maker) number() int { return m.Intn(numbersEnd) }
func (m maker) any() int    { return m.Intn(makerRegs) }

// one is mostly the register that is wanted, now and then any, or one that is often null.
func (m maker) one(wanted int) int {
	switch m.Intn(50) {
	case 0:
		return m.any()
	case 1:
		return anyFrom + 1
	}
	return wanted
}

func (m maker) record() (register int, sort int64) {
	n := m.Intn(3)
	return numbersEnd + n, int64(n / 2)
}

func (m maker) array() int { return numbersEnd + 3 + m.Intn(2) }

// code is right code of a few functions, most of whose instructions do not trap.
func (m maker) code() api.Code {
	c := api.Code{Funcs: make([]api.Func, 1+m.Intn(4))}
	for n := range c.Funcs {
		c.Funcs[n] = api.Func{Name: string(rune('a' + n)), Regs: makerRegs + m.Intn(3), Code: make([]api.Ins, 14+m.Intn(25))}
		c.Funcs[n].Params = m.Intn(6)
	}
	c.Main = m.Intn(len(c.Funcs))
	c.Funcs[c.Main].Params = 0
	for _, f := range c.Funcs {
		ahead := []api.Ins{insNew(5, 2, 0), insNew(6, 2, 0), insNew(7, 3, 1), insNum(4, 3), insArr(8, 4), insArr(9, 4), insMove(10, 5), insNull(11)}
		copy(f.Code, ahead)
		for at := len(ahead); at < len(f.Code); at++ {
			f.Code[at] = m.ins(&c, f, at)
		}
		f.Code[len(f.Code)-1] = []api.Ins{insRet(m.any()), insStop(m.any()), insJump(int64(m.Intn(len(f.Code) - 1)))}[m.Intn(9)/4]
	}
	return c
}

// ins is an instruction for a place of a function behind its first ones.
func (m maker) ins(c *api.Code, f api.Func, at int) api.Ins {
	n := m.number
	r, sort := m.record()
	op := 1 + m.Intn(api.InsPromote)
	if m.Intn(15) == 0 {
		op = api.InsStep
	}
	switch op {
	case api.InsNum:
		return insNum(n(), m.Int63n(6)-1)
	case api.InsNull, api.InsIn, api.InsRoot:
		return api.Ins{Op: op, A: m.one(anyFrom + m.Intn(2))}
	case api.InsMove, api.InsPromote:
		if m.Intn(3) == 0 {
			return api.Ins{Op: op, A: anyFrom + m.Intn(2), B: m.any()}
		}
		return api.Ins{Op: op, A: n(), B: m.one(n())}
	case api.InsBin:
		return insBin(n(), m.one(n()), m.one(n()), 1+m.Int63n(12))
	case api.InsUn:
		return insUn(n(), m.one(n()), 13+m.Int63n(3))
	case api.InsEq, api.InsNe:
		return api.Ins{Op: op, A: n(), B: m.any(), C: m.any()}
	case api.InsGet:
		return insGet(m.one(anyFrom), m.one(r), m.Intn(2), sort)
	case api.InsPut:
		return insPut(m.one(r), m.any(), m.Intn(2), sort)
	case api.InsElem:
		return insElem(m.one(anyFrom), m.one(m.array()), n())
	case api.InsSetElem:
		return insSetElem(m.one(m.array()), n(), m.any())
	case api.InsLen:
		return insLen(n(), m.one(m.array()))
	case api.InsNew:
		return insNew(r, 2+m.Intn(2), sort)
	case api.InsArr:
		return insArr(m.array(), m.one(n()))
	case api.InsOut, api.InsZero:
		i := api.Ins{Op: op, A: m.one(n())}
		if op == api.InsZero {
			i.K = m.elsewhere(f, at)
		}
		return i
	case api.InsImg:
		return insImg(n(), m.one(n()))
	case api.InsJump:
		return insJump(m.elsewhere(f, at))
	case api.InsCall:
		return m.call(c)
	case api.InsMerge:
		i := insMerge(int64(c.Merges), m.Perm(makerRegs)[:m.Intn(5)]...)
		c.Merges++
		return i
	case api.InsSize:
		return insSize(n())
	case api.InsStep:
		return insStep
	default:
		return api.Ins{Op: op, A: m.any()}
	}
}

func (m maker) call(c *api.Code) api.Ins {
	i := insCall(m.one(m.number()), m.Int63n(int64(len(c.Funcs))))
	for range c.Funcs[i.K].Params {
		i.L = append(i.L, m.one(m.number()))
	}
	return i
}

// elsewhere is another place of a function.
func (m maker) elsewhere(f api.Func, at int) int64 {
	count := len(f.Code)
	return int64((at + 1 + m.Intn(count-1)) % count)
}

// value is of any kind, now and then odd.
func (m maker) value() api.Value {
	if m.Intn(6) == 0 {
		return odd[m.Intn(len(odd))]
	}
	return api.Value{Kind: m.Intn(3), N: m.Int63n(9) - 2}
}

func (m maker) numbers(most int) []int64 {
	l := make([]int64, m.Intn(most+1))
	for n := range l {
		l[n] = m.Int63n(7) - 1
	}
	return l
}

// given is with small limits.
func (m maker) given() given {
	return given{m.numbers(6), m.numbers(10), api.Limits{Fuel: m.Intn(20), Depth: m.Intn(12), Cells: 10 + m.Intn(400)}}
}

func (m maker) pick(l ...string) string { return l[m.Intn(len(l))] }

// description is one that is taken: a and b are numbers, p is a record, v an array, w anything.
func (m maker) description() string {
	s := "rec P {x, y} rec Q {z} fn main() { " + m.lets() + m.block(9, 3, false) + m.pick("", "return w;", "return a;", "stop p;") + " }"
	for _, name := range []string{"f", "g"} {
		s += " fn " + name + "(a, b) { let p = new P; let v = arr(3); let w = null; " + m.block(4, 2, false) + "return " + m.sum(2) + "; }"
	}
	return s
}

func (m maker) lets() string {
	return "let a = " + m.sum(0) + "; let b = 2; let p = new P; let v = arr(3); let w = null; "
}

func (m maker) block(statements, deep int, looped bool) string {
	var l []string
	if looped && m.Intn(3) > 0 {
		l = append(l, m.pick("merge();", "merge(a);", "merge(b, w);", "merge(p, v, w, a);"))
	}
	for range 1 + m.Intn(statements) {
		l = append(l, m.statement(deep))
	}
	return strings.Join(append(l, ""), " ")
}

func (m maker) statement(deep int) string {
	if deep > 0 && m.Intn(4) == 0 {
		body := m.block(3, deep-1, false)
		switch m.Intn(3) {
		case 0:
			return "if " + m.sum(2) + " { " + body + "}"
		case 1:
			return "if " + m.sum(2) + " { " + body + "} else { " + m.block(3, deep-1, false) + "}"
		}
		return "b = " + fmt.Sprint(m.Intn(6)) + "; while b { " + m.block(3, deep-1, true) + "b = b - 1; }"
	}
	switch m.Intn(10) {
	case 0, 1:
		return m.pick("a", "b", "w") + " = " + m.sum(2) + ";"
	case 2:
		return "w = " + m.pick("p", "v", "null", "in()", "root", "new Q", "v[a]", "p.x", "promote(w)") + ";"
	case 3:
		return m.pick("p.x", "p.y", "v[0]", "v[a]", "root", "w", "w.z") + " = " + m.pick("p", "v", "w", "a", m.sum(1), "new P") + ";"
	case 4:
		return m.pick("p = new P;", "v = arr("+m.pick("3", "4", "a")+");", "p = "+m.pick("w", "p.x", "root")+";")
	case 5:
		return m.pick("f", "g") + "(" + m.sum(1) + ", " + m.sum(1) + ");"
	case 6:
		return m.pick("out a;", "out w;", "out a;", "return w;", "stop a;", "out b;", "out 1;")
	}
	return "out " + m.sum(2) + ";"
}

// sum is an expression that is mostly a number.
func (m maker) sum(deep int) string {
	if deep == 0 || m.Intn(4) == 0 {
		return m.pick("0", "1", "2", "3", "size()", "img(0)", "7", "size() - 1")
	}
	switch m.Intn(8) {
	case 0:
		return m.pick("a", "b", "a", "len(v)", "p.x", "v[1]", "img(a)", "in()")
	case 1:
		return m.pick("-", "!", "~") + "(" + m.sum(deep-1) + ")"
	case 2:
		return m.pick("f", "g") + "(" + m.sum(deep-1) + ", " + m.sum(deep-1) + ")"
	case 3:
		return "promote(" + m.sum(deep-1) + ")"
	case 4:
		return "(" + m.pick("w", "p", "v", "null", "root") + m.pick(" == ", " != ") + m.pick("w", "p", "v", "null", "root") + ")"
	}
	return "(" + m.sum(deep-1) + m.pick(" + ", " - ", " * ", " / ", " % ", " << ", " >> ", " & ", " | ", " ^ ", " < ", " <= ") + m.sum(deep-1) + ")"
}
