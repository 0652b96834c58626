package ir

import (
	"math"
	"math/rand"
	"reflect"
	"slices"
	"testing"

	"swath/api"
)

func in(n, least, most int64) bool { return least <= n && n <= most }

// wrongFields tells whether an instruction has a field that the table doesn't have, or a register that there isn't.
func wrongFields(i api.Ins, regs int) bool {
	filled := map[string]int64{"A": int64(i.A), "B": int64(i.B), "C": int64(i.C), "K": i.K, "L": int64(len(i.L))}
	for field, n := range filled {
		if !has(i.Op, field) && n != 0 || isRegister(i.Op, field) && !in(n, 0, int64(regs)-1) {
			return true
		}
	}
	return slices.ContainsFunc(i.L, func(n int) bool { return n < 0 || n >= regs })
}

// wrongNumber tells whether an instruction's K, its cell or how many registers it has in L is wrong.
func wrongNumber(c api.Code, f api.Func, at int) bool {
	i := f.Code[at]
	switch lines[i.Op].name {
	case "bin":
		return !in(i.K, 1, 12)
	case "un":
		return !in(i.K, 13, 15)
	case "get", "put", "new":
		return !in(i.K, 0, 1000) || !in(int64(i.C), 0, 1000)
	case "jump", "zero":
		return !in(i.K, 0, int64(len(f.Code))-1) || i.K == int64(at)
	case "call":
		return !in(i.K, 0, int64(len(c.Funcs))-1) || len(i.L) != c.Funcs[i.K].Params
	case "merge":
		return !in(i.K, 0, int64(c.Merges)-1) || len(i.L) > 4
	}
	return false
}

// spot is an instruction of a function.
type spot struct{ function, instruction int }

// mergedAgain are the merges whose number one ahead of them has.
func mergedAgain(c api.Code) []spot {
	var l []spot
	met := map[int64]int{}
	for n, f := range c.Funcs {
		for at, i := range f.Code {
			if i.Op != api.InsMerge {
				continue
			}
			if met[i.K] > 0 {
				l = append(l, spot{n, at})
			}
			met[i.K]++
		}
	}
	return l
}

// faults are all the instructions that are wrong, in any order.
func faults(c api.Code) []spot {
	l := mergedAgain(c)
	for n, f := range c.Funcs {
		if f.Params < 0 || f.Params > f.Regs || f.Regs > 1000 || len(f.Code) < 1 || len(f.Code) > 100000 {
			l = append(l, spot{n, 0})
		}
		for at, i := range f.Code {
			if i.Op < 1 || i.Op > ops {
				l = append(l, spot{n, at})
				continue
			}
			last := !slices.Contains([]string{"jump", "ret", "stop"}, lines[i.Op].name) && at == len(f.Code)-1
			if last || wrongFields(i, f.Regs) || wrongNumber(c, f, at) {
				l = append(l, spot{n, at})
			}
		}
	}
	return l
}

// checked is what Check is to answer: of all that is wrong what is looked at first.
func checked(c api.Code) (int, int, api.Errno) {
	if len(c.Funcs) == 0 || !in(int64(c.Main), 0, int64(len(c.Funcs))-1) || c.Funcs[c.Main].Params != 0 || c.Merges < 0 {
		return 0, 0, api.ErrCode
	}
	l := faults(c)
	if len(l) == 0 {
		return 0, 0, api.OK
	}
	first := slices.MinFunc(l, func(a, b spot) int {
		if a.function != b.function {
			return a.function - b.function
		}
		return a.instruction - b.instruction
	})
	return first.function, first.instruction, api.ErrCode
}

// chancer makes code by chance.
type chancer struct{ *rand.Rand }

// ins is an instruction that is right at a place of a function of code, if the numbers are.
func (m chancer) ins(c api.Code, f api.Func, at int) api.Ins {
	op := 1 + m.Intn(ops)
	if at == len(f.Code)-1 {
		op = []int{api.InsJump, api.InsRet, api.InsStop}[m.Intn(3)]
	}
	if op == api.InsMerge || len(f.Code) == 1 && op == api.InsJump {
		op = api.InsRet
	}
	i := api.Ins{Op: op}
	for _, field := range lines[op].fields {
		i = with(i, field, int64(m.Intn(f.Regs)))
	}
	switch op {
	case api.InsBin:
		i.K = 1 + m.Int63n(12)
	case api.InsUn:
		i.K = 13 + m.Int63n(3)
	case api.InsJump, api.InsZero:
		i.K = int64(at+1+m.Intn(len(f.Code)-1)) % int64(len(f.Code))
	case api.InsCall:
		i.K, i.L = m.Int63n(int64(len(c.Funcs))), nil
		for range c.Funcs[i.K].Params {
			i.L = append(i.L, m.Intn(f.Regs))
		}
	}
	return i
}

// code is right code of a few short functions.
func (m chancer) code() api.Code {
	c := api.Code{Funcs: make([]api.Func, 1+m.Intn(4))}
	c.Main = m.Intn(len(c.Funcs))
	for n := range c.Funcs {
		f := api.Func{Name: string(rune('a' + n)), Regs: 1 + m.Intn(6), Code: make([]api.Ins, 1+m.Intn(12))}
		if n != c.Main {
			f.Params = m.Intn(f.Regs + 1)
		}
		c.Funcs[n] = f
	}
	for _, f := range c.Funcs {
		for at := range f.Code {
			f.Code[at] = m.ins(c, f, at)
			if at < len(f.Code)-1 && m.Intn(8) == 0 {
				f.Code[at] = api.Ins{Op: api.InsMerge, K: int64(c.Merges), L: slices.Repeat([]int{m.Intn(f.Regs)}, m.Intn(5))}
				c.Merges++
			}
		}
	}
	return c
}

// number is one that is near a bound, or far from all.
func (m chancer) number() int64 {
	switch m.Intn(8) {
	case 0:
		return []int64{math.MinInt64, math.MaxInt64, 999, 1000, 1001, 1 << 32}[m.Intn(6)]
	case 1:
		return -1 - m.Int63n(3)
	}
	return m.Int63n(17)
}

// spoil changes one thing of code, most often so that it is wrong.
func (m chancer) spoil(c *api.Code) {
	f := &c.Funcs[m.Intn(len(c.Funcs))]
	if len(f.Code) == 0 {
		return
	}
	i := &f.Code[m.Intn(len(f.Code))]
	switch m.Intn(20) {
	case 0:
		c.Main = int(m.number())
	case 1:
		c.Merges = int(m.number())
	case 2:
		f.Params = int(m.number())
	case 3:
		f.Regs = int(m.number())
	case 4:
		f.Code = f.Code[:m.Intn(len(f.Code))]
	case 5:
		i.L = append(i.L, m.Intn(7)-1)
	case 6:
		i.Op = int(m.number())
	case 7, 8:
		*i = api.Ins{Op: api.InsMerge, K: m.Int63n(4)}
	default:
		*i = with(*i, []string{"A", "B", "C", "K", "L"}[m.Intn(5)], m.number())
	}
}

// wantAll wants of code all that the chapter says of it, and that no call changes it.
func wantAll(t *testing.T, c api.Code) api.Errno {
	t.Helper()
	before := copied(c)
	f, i, e := checked(c)
	wantCheck(t, c, f, i, e)
	for _, f := range c.Funcs {
		wantText(t, f)
		wantNext(t, f)
		for _, i := range f.Code {
			wantUses(t, i)
		}
	}
	wantSame(t, c, before, true)
	if !reflect.DeepEqual(c, before) {
		t.Errorf("%v has become %v", before, c)
	}
	return e
}

func TestRightCodeByChance(t *testing.T) { // P10.1 to P10.5
	m := chancer{rand.New(rand.NewSource(101))}
	seen := make([]int, ops+1)
	for range 3000 {
		c := m.code()
		if e := wantAll(t, c); e != api.OK {
			t.Fatal(c)
		}
		for _, f := range c.Funcs {
			for _, i := range f.Code {
				seen[i.Op]++
			}
		}
	}
	if slices.Contains(seen[1:], 0) {
		t.Error("no code has some instructions:", seen)
	}
}

func TestSpoiledCodeByChance(t *testing.T) { // P10.1 to P10.5
	m := chancer{rand.New(rand.NewSource(102))}
	ends := map[api.Errno]int{}
	told := map[spot]int{}
	for range 20000 {
		c := m.code()
		for range 1 + m.Intn(3) {
			m.spoil(&c)
		}
		ends[wantAll(t, c)]++
		f, i, _ := Check(c)
		told[spot{f, i}]++
	}
	if ends[api.OK] < 500 || ends[api.ErrCode] < 5000 || len(told) < 40 {
		t.Error(ends, len(told))
	}
}

func TestAnyNumbersAtAll(t *testing.T) { // P10.1 to P10.5, P1
	m := chancer{rand.New(rand.NewSource(103))}
	whatever := func() int {
		if m.Intn(3) == 0 {
			return int(m.Uint64())
		}
		return int(m.number())
	}
	for range 20000 {
		c := api.Code{Funcs: make([]api.Func, m.Intn(4)), Main: whatever(), Merges: whatever()}
		for n := range c.Funcs {
			f := api.Func{Name: string(rune(m.Intn(300))), Params: whatever(), Regs: whatever(), Code: make([]api.Ins, m.Intn(6))}
			for at := range f.Code {
				f.Code[at] = api.Ins{Op: whatever(), A: whatever(), B: whatever(), C: whatever(), K: int64(whatever()), L: make([]int, m.Intn(4))}
				for k := range f.Code[at].L {
					f.Code[at].L[k] = whatever()
				}
			}
			c.Funcs[n] = f
		}
		wantAll(t, c)
	}
}

// TestBehindLengths has wrong things behind all lists' lengths: they count for nothing, and stay.
func TestBehindLengths(t *testing.T) { // P2
	m := chancer{rand.New(rand.NewSource(104))}
	for range 500 {
		c := m.code()
		longer := copied(c)
		longer.Funcs = append(longer.Funcs, api.Func{Regs: -1})[:len(c.Funcs)]
		for n := range longer.Funcs {
			f := &longer.Funcs[n]
			for at := range f.Code {
				f.Code[at].L = append(f.Code[at].L, -7)[:len(f.Code[at].L)]
			}
			f.Code = append(f.Code, api.Ins{Op: -1})[:len(f.Code)]
		}
		if wantAll(t, longer) != api.OK {
			t.Fatal(c)
		}
		wantSame(t, c, longer, true)
		if longer.Funcs[:len(c.Funcs)+1][len(c.Funcs)].Regs != -1 {
			t.Error("what lies behind the functions has changed")
		}
		for n, f := range longer.Funcs {
			if f.Code[:len(f.Code)+1][len(f.Code)].Op != -1 {
				t.Error("what lies behind the code has changed")
			}
			for at, i := range f.Code {
				if i.L[:len(i.L)+1][len(i.L)] != -7 {
					t.Error("what lies behind a list has changed", n, at)
				}
			}
		}
	}
}
