package ir

import (
	"math"
	"slices"
	"testing"

	"swath/api"
)

func TestNoFunctions(t *testing.T) { // P10.1
	for _, main := range []int{0, 1, -1} {
		for _, merges := range []int{0, 1, -1} {
			wantCheck(t, api.Code{Main: main, Merges: merges}, 0, 0, api.ErrCode)
			wantCheck(t, api.Code{Funcs: []api.Func{}, Main: main, Merges: merges}, 0, 0, api.ErrCode)
		}
	}
	// What lies behind the length is no function.
	wantCheck(t, api.Code{Funcs: host(sample(api.InsStep)).Funcs[:0]}, 0, 0, api.ErrCode)
}

func TestMain(t *testing.T) { // P10.1
	c := host(sample(api.InsStep))
	for _, main := range []int{-1, 2, 3, math.MaxInt, math.MinInt} {
		c.Main = main
		wantCheck(t, c, 0, 0, api.ErrCode)
	}
	// Function 1 has parameters.
	c.Main = 1
	wantCheck(t, c, 0, 0, api.ErrCode)
	c.Funcs[1].Params = 1
	wantCheck(t, c, 0, 0, api.ErrCode)
	c.Funcs[1].Params = 0
	wantCheck(t, c, 0, 0, api.OK)
	// Another than Main may have some, wherever it stands.
	c.Funcs[0].Params = 5
	wantCheck(t, c, 0, 0, api.OK)
	c.Main = 0
	wantCheck(t, c, 0, 0, api.ErrCode)
}

func TestMergesBelowNought(t *testing.T) { // P10.1
	for _, merges := range []int{0, 1, math.MaxInt} {
		c := host(sample(api.InsStep))
		c.Merges = merges
		wantCheck(t, c, 0, 0, api.OK)
	}
	for _, merges := range []int{-1, -2, math.MinInt} {
		c := host(sample(api.InsStep))
		c.Merges = merges
		wantCheck(t, c, 0, 0, api.ErrCode)
	}
}

func TestParamsAndRegs(t *testing.T) { // P10.1
	numbers := []int{math.MinInt, -1001, -2, -1, 0, 1, 2, 3, 500, 999, 1000, 1001, 1002, math.MaxInt}
	for _, params := range numbers {
		for _, regs := range numbers {
			c := host(sample(api.InsStep))
			// Its code has no registers, and comes round to its beginning.
			c.Funcs[1] = api.Func{Params: params, Regs: regs, Code: []api.Ins{{Op: api.InsStep}, {Op: api.InsJump, K: 0}}}
			if params >= 0 && params <= regs && regs <= 1000 {
				wantCheck(t, c, 0, 0, api.OK)
			} else {
				wantCheck(t, c, 1, 0, api.ErrCode)
			}
		}
	}
}

func TestManyRegisters(t *testing.T) { // P10.1
	c := host(api.Ins{Op: api.InsEq, A: 999, B: 998, C: 999})
	c.Funcs[0].Regs = 1000
	wantCheck(t, c, 0, 0, api.OK)
	c.Funcs[0].Code[here].C = 1000
	wantCheck(t, c, 0, here, api.ErrCode)
	c.Funcs[0].Regs = 1001
	wantCheck(t, c, 0, 0, api.ErrCode)
}

func TestNoInstruction(t *testing.T) { // P10.1
	for _, code := range [][]api.Ins{nil, {}, []api.Ins{{Op: api.InsRet}}[:0]} {
		c := host(sample(api.InsStep))
		c.Funcs[1].Code = code
		wantCheck(t, c, 1, 0, api.ErrCode)
		c = host(sample(api.InsStep))
		c.Funcs[0].Code = code
		wantCheck(t, c, 0, 0, api.ErrCode)
	}
}

func TestManyInstructions(t *testing.T) { // P10.1
	long := func(n int) []api.Ins {
		return append(slices.Repeat([]api.Ins{{Op: api.InsStep}}, n-1), api.Ins{Op: api.InsRet})
	}
	for _, n := range []int{1, 2, 99999, 100000} {
		c := host(sample(api.InsStep))
		c.Funcs[1].Code = long(n)
		wantCheck(t, c, 0, 0, api.OK)
		// The last place is one to go on at, from the first one, and a wrong one is told.
		if n > 2 {
			c.Funcs[1].Code[0] = api.Ins{Op: api.InsJump, K: int64(n) - 1}
			wantCheck(t, c, 0, 0, api.OK)
			c.Funcs[1].Code[n-1].A = 3
			wantCheck(t, c, 1, n-1, api.ErrCode)
		}
	}
	for _, n := range []int{100001, 100002, 200000} {
		c := host(sample(api.InsStep))
		c.Funcs[1].Code = long(n)
		wantCheck(t, c, 1, 0, api.ErrCode)
		// Too long is looked at ahead of its instructions.
		c.Funcs[1].Code[5].Op = 0
		wantCheck(t, c, 1, 0, api.ErrCode)
	}
	// Each function has its own.
	c := host(sample(api.InsStep))
	c.Funcs[0].Code, c.Funcs[1].Code = long(100000), long(100000)
	wantCheck(t, c, 0, 0, api.OK)
}

func TestManyFunctions(t *testing.T) { // P10.1
	c := api.Code{Funcs: slices.Repeat([]api.Func{{Regs: 1, Code: []api.Ins{{Op: api.InsRet}}}}, 5000), Main: 4999}
	wantCheck(t, c, 0, 0, api.OK)
	c.Funcs[4321].Code = []api.Ins{{Op: api.InsCall, K: 4999}, {Op: api.InsCall, K: 5000}, {Op: api.InsRet}}
	wantCheck(t, c, 4321, 1, api.ErrCode)
}

// spoils are ways to make the function that is right wrong at place 2 (function's own faults: 0), in host's function 0.
func spoils() map[string]func(f *api.Func) int {
	ins := func(change func(i *api.Ins)) func(*api.Func) int {
		return func(f *api.Func) int {
			change(&f.Code[2])
			return 2
		}
	}
	return map[string]func(f *api.Func) int{
		"params":  func(f *api.Func) int { f.Params = f.Regs + 1; return 0 },
		"regs":    func(f *api.Func) int { f.Regs = 1001; return 0 },
		"no code": func(f *api.Func) int { f.Code = nil; return 0 },
		"op":      ins(func(i *api.Ins) { i.Op = 29 }),
		"field":   ins(func(i *api.Ins) { i.A = 1 }),
		"list":    ins(func(i *api.Ins) { i.L = []int{0} }),
		"reg":     ins(func(i *api.Ins) { *i = api.Ins{Op: api.InsNull, A: -1} }),
		"place":   ins(func(i *api.Ins) { *i = api.Ins{Op: api.InsJump, K: 2} }),
		"call":    ins(func(i *api.Ins) { *i = api.Ins{Op: api.InsCall, K: 9} }),
		"merge":   ins(func(i *api.Ins) { *i = api.Ins{Op: api.InsMerge, K: 3} }),
		"last":    func(f *api.Func) int { f.Code[3].Op = api.InsOut; return 3 },
	}
}

// three is right code with three functions that are alike, the first one Main.
func three() api.Code {
	c := host(sample(api.InsStep))
	c.Funcs = []api.Func{c.Funcs[0], c.Funcs[0], c.Funcs[0]}
	return copied(c)
}

func TestFirstFunctionThatIsWrong(t *testing.T) { // P10.1
	wantCheck(t, three(), 0, 0, api.OK)
	for first, spoilFirst := range spoils() {
		for second, spoilSecond := range spoils() {
			for f := range 3 {
				for g := f + 1; g < 3; g++ {
					// Main's parameters are looked at ahead of all.
					if first == "params" && f == 0 || second == "params" && g == 0 {
						continue
					}
					c := three()
					at := spoilFirst(&c.Funcs[f])
					spoilSecond(&c.Funcs[g])
					wantCheck(t, c, f, at, api.ErrCode)
				}
			}
		}
	}
}

func TestCodeIsLookedAtFirst(t *testing.T) { // P10.1
	for _, spoil := range spoils() {
		for f := range 3 {
			c := three()
			spoil(&c.Funcs[f])
			for _, main := range []int{-1, 3} {
				c.Main = main
				wantCheck(t, c, 0, 0, api.ErrCode)
			}
			c.Main, c.Merges = 0, -1
			wantCheck(t, c, 0, 0, api.ErrCode)
			// Main is the last one, and has parameters.
			c = three()
			spoil(&c.Funcs[f])
			c.Main, c.Funcs[2].Params = 2, 1
			wantCheck(t, c, 0, 0, api.ErrCode)
		}
	}
}

func TestFirstInstructionThatIsWrong(t *testing.T) { // P10.1
	code := make([]api.Ins, ops+1)
	for op := 1; op <= ops; op++ {
		code[op-1] = sample(op)
	}
	code[ops] = api.Ins{Op: api.InsRet}
	c := host(sample(api.InsStep))
	c.Funcs[0].Code = code
	wantCheck(t, c, 0, 0, api.OK)
	for first := range code {
		for second := first + 1; second < len(code); second++ {
			d := copied(c)
			d.Funcs[0].Code[second] = api.Ins{Op: -1}
			wantCheck(t, d, 0, second, api.ErrCode)
			d.Funcs[0].Code[first].A = 5
			wantCheck(t, d, 0, first, api.ErrCode)
			// The function as a whole comes ahead of each of its instructions.
			d.Funcs[0].Regs = 1001
			wantCheck(t, d, 0, 0, api.ErrCode)
		}
	}
}

// TestCallsOfWrongFunctions: of a call and the function behind it that it calls the call is wrong, if these don't fit.
func TestCallsOfWrongFunctions(t *testing.T) { // P10.1
	c := host(sample(api.InsCall))
	c.Funcs[1].Params = -1
	wantCheck(t, c, 0, here, api.ErrCode)
	c.Funcs[1].Params = 2
	c.Funcs[1].Code = nil
	wantCheck(t, c, 1, 0, api.ErrCode)
	c.Funcs[1].Regs = 1
	wantCheck(t, c, 1, 0, api.ErrCode)
	c.Funcs[0].Code[here].L = []int{0, 9}
	wantCheck(t, c, 0, here, api.ErrCode)
}
