package ir

import (
	"math"
	"slices"
	"testing"

	"swath/api"
)

func TestExample(t *testing.T) { // P10.1
	c := api.Code{Funcs: []api.Func{{Regs: 1, Code: []api.Ins{{Op: api.InsNum, A: 0, K: 5}, {Op: api.InsRet, A: 0}}}}}
	wantCheck(t, c, 0, 0, api.OK)
	c.Funcs[0].Regs = 0
	wantCheck(t, c, 0, 0, api.ErrCode)
}

func TestEveryInstructionIsRight(t *testing.T) { // P10.1
	for op := 1; op <= ops; op++ {
		wantRight(t, sample(op), true)
	}
}

func TestRegisters(t *testing.T) { // P10.1
	// host has 5 registers.
	for op := 1; op <= ops; op++ {
		for _, field := range []string{"A", "B", "C"} {
			if !isRegister(op, field) {
				continue
			}
			for _, n := range []int64{0, 1, 4} {
				wantRight(t, with(sample(op), field, n), true)
			}
			for _, n := range []int64{-1, 5, 6, 1000, math.MaxInt, math.MinInt} {
				wantRight(t, with(sample(op), field, n), false)
			}
		}
		if !has(op, "L") {
			continue
		}
		for at := range sample(op).L {
			for _, n := range []int{0, 4, -1, 5, math.MaxInt, math.MinInt} {
				i := sample(op)
				i.L[at] = n
				wantRight(t, i, n >= 0 && n < 5)
			}
		}
	}
}

// TestOneRegister has one register in all fields at once: none must differ from another.
func TestOneRegister(t *testing.T) { // P10.1
	for op := 1; op <= ops; op++ {
		i := sample(op)
		for _, field := range []string{"A", "B", "C"} {
			if isRegister(op, field) {
				i = with(i, field, 2)
			}
		}
		for at := range i.L {
			i.L[at] = 2
		}
		wantRight(t, i, true)
	}
}

// TestRegistersAreOneFunctions: how many there are is asked of the function in which the instruction stands.
func TestRegistersAreOneFunctions(t *testing.T) { // P10.1
	for _, regs := range []int{2, 3, 4, 1000} {
		for _, n := range []int{regs - 1, regs, regs + 1} {
			c := host(sample(api.InsStep))
			c.Funcs[1].Regs, c.Funcs[1].Code[0].A = regs, n
			if n < regs {
				wantCheck(t, c, 0, 0, api.OK)
			} else {
				wantCheck(t, c, 1, 0, api.ErrCode)
			}
		}
	}
}

func TestFieldsThatThereAreNot(t *testing.T) { // P10.1
	for op := 1; op <= ops; op++ {
		for _, field := range []string{"A", "B", "C", "K"} {
			if has(op, field) {
				continue
			}
			for _, n := range []int64{1, 2, -1, math.MaxInt64, math.MinInt64} {
				wantRight(t, with(sample(op), field, n), false)
			}
			wantRight(t, with(sample(op), field, 0), true)
		}
		if has(op, "L") {
			continue
		}
		for _, l := range [][]int{{0}, {1}, {-1}, {0, 0}, {1, 2, 3}} {
			i := sample(op)
			i.L = l
			wantRight(t, i, false)
		}
		i := sample(op)
		i.L = []int{}
		wantRight(t, i, true)
		// What lies behind the length is none of it.
		i.L = []int{7, 8}[:0]
		wantRight(t, i, true)
	}
}

func TestNumbersOfOperations(t *testing.T) { // P10.1
	for n := int64(-3); n <= 20; n++ {
		wantRight(t, with(sample(api.InsBin), "K", n), n >= 1 && n <= 12)
		wantRight(t, with(sample(api.InsUn), "K", n), n >= 13 && n <= 15)
	}
	for _, op := range []int{api.InsBin, api.InsUn} {
		for _, n := range []int64{1<<32 + 1, 1<<32 + 13, 256 + 13, math.MaxInt64, math.MinInt64} {
			wantRight(t, with(sample(op), "K", n), false)
		}
	}
}

func TestNumbersOfSortsAndCells(t *testing.T) { // P10.1
	for _, op := range cellOps {
		for _, field := range []string{"C", "K"} {
			for _, n := range []int64{0, 1, 4, 5, 6, 500, 999, 1000} {
				wantRight(t, with(sample(op), field, n), true)
			}
			for _, n := range []int64{-1, -2, 1001, 1 << 32, math.MaxInt64, math.MinInt64} {
				wantRight(t, with(sample(op), field, n), false)
			}
		}
	}
}

func TestAnyNumber(t *testing.T) { // P10.1
	for _, n := range []int64{0, 1, -1, 1001, math.MaxInt64, math.MinInt64} {
		wantRight(t, with(sample(api.InsNum), "K", n), true)
	}
}

func TestOpsThatAreNone(t *testing.T) { // P10.1
	for _, op := range oddOps {
		wantRight(t, api.Ins{Op: op}, false)
		for other := 1; other <= ops; other++ {
			i := sample(other)
			i.Op = op
			wantRight(t, i, false)
		}
		// Also as the last one, and as the only one.
		wantCheck(t, api.Code{Funcs: []api.Func{{Regs: 1, Code: []api.Ins{{Op: op}}}}}, 0, 0, api.ErrCode)
		c := host(sample(api.InsStep))
		c.Funcs[0].Code[3].Op = op
		wantCheck(t, c, 0, 3, api.ErrCode)
	}
}

func TestPlaces(t *testing.T) { // P10.1
	for _, op := range []int{api.InsJump, api.InsZero} {
		for _, n := range []int64{0, 2, 3} {
			wantRight(t, with(sample(op), "K", n), true)
		}
		for _, n := range []int64{here, -1, 4, 5, 1 << 32, 1<<32 + 2, math.MaxInt64, math.MinInt64} {
			wantRight(t, with(sample(op), "K", n), false)
		}
		// From each place to each.
		for from := range 3 {
			for to := range int64(6) {
				c := host(sample(api.InsStep))
				c.Funcs[0].Code[from] = with(sample(op), "K", to)
				if to < 4 && to != int64(from) {
					wantCheck(t, c, 0, 0, api.OK)
				} else {
					wantCheck(t, c, 0, from, api.ErrCode)
				}
			}
		}
	}
	// Places are those of the function in which the jump stands.
	c := host(sample(api.InsStep))
	c.Funcs[1].Code = []api.Ins{{Op: api.InsJump, K: 1}, {Op: api.InsJump, K: 0}}
	wantCheck(t, c, 0, 0, api.OK)
	c.Funcs[1].Code[1].K = 3
	wantCheck(t, c, 1, 1, api.ErrCode)
	c.Funcs[1].Code[1].K = 1
	wantCheck(t, c, 1, 1, api.ErrCode)
	c.Funcs[1].Code = []api.Ins{{Op: api.InsJump}}
	wantCheck(t, c, 1, 0, api.ErrCode)
}

func TestCalls(t *testing.T) { // P10.1
	for _, n := range []int64{-1, 2, 3, 1 << 32, 1<<32 + 1, math.MaxInt64, math.MinInt64} {
		wantRight(t, with(sample(api.InsCall), "K", n), false)
	}
	for params := range 7 {
		for arguments := range 7 {
			c := host(api.Ins{Op: api.InsCall, K: 1, L: slices.Repeat([]int{3}, arguments)})
			c.Funcs[1].Params, c.Funcs[1].Regs = params, 7
			if params == arguments {
				wantCheck(t, c, 0, 0, api.OK)
			} else {
				wantCheck(t, c, 0, here, api.ErrCode)
			}
		}
	}
	// A function may call itself, and one ahead of it.
	wantRight(t, api.Ins{Op: api.InsCall, K: 0}, true)
	wantRight(t, api.Ins{Op: api.InsCall, K: 0, L: []int{}}, true)
	wantRight(t, api.Ins{Op: api.InsCall, K: 0, L: []int{1}}, false)
	c := host(sample(api.InsStep))
	c.Funcs[1].Code = []api.Ins{{Op: api.InsCall, K: 0}, {Op: api.InsCall, K: 1, L: []int{2, 2}}, {Op: api.InsRet}}
	wantCheck(t, c, 0, 0, api.OK)
	c.Funcs[1].Code[1].L = []int{2, 3}
	wantCheck(t, c, 1, 1, api.ErrCode)
}

func TestCallWithAllRegisters(t *testing.T) { // P10.1
	all := make([]int, 1000)
	for n := range all {
		all[n] = n
	}
	c := host(api.Ins{Op: api.InsCall, K: 1, L: all})
	c.Funcs[0].Regs, c.Funcs[1].Regs, c.Funcs[1].Params = 1000, 1000, 1000
	wantCheck(t, c, 0, 0, api.OK)
	c.Funcs[0].Regs = 999
	wantCheck(t, c, 0, here, api.ErrCode)
	c.Funcs[0].Regs, c.Funcs[1].Params = 1000, 999
	wantCheck(t, c, 0, here, api.ErrCode)
}

func TestMerges(t *testing.T) { // P10.1
	for n := int64(-2); n <= 6; n++ {
		wantRight(t, with(sample(api.InsMerge), "K", n), n >= 0 && n < 3)
	}
	for _, n := range []int64{1 << 32, 1<<32 + 1, math.MaxInt64, math.MinInt64} {
		wantRight(t, with(sample(api.InsMerge), "K", n), false)
	}
	for greens := range 8 {
		wantRight(t, api.Ins{Op: api.InsMerge, L: slices.Repeat([]int{1}, greens)}, greens <= api.MaxGreens)
	}
	c := host(sample(api.InsMerge))
	for _, merges := range []int{0, 1, 2, 3, math.MaxInt} {
		c.Merges = merges
		if merges >= 2 {
			wantCheck(t, c, 0, 0, api.OK)
		} else {
			wantCheck(t, c, 0, here, api.ErrCode)
		}
	}
	c.Merges, c.Funcs[0].Code[here].K = math.MaxInt, math.MaxInt-1
	wantCheck(t, c, 0, 0, api.OK)
	c.Funcs[0].Code[here].K++
	wantCheck(t, c, 0, here, api.ErrCode)
}

func TestMergesWithOneNumber(t *testing.T) { // P10.1
	merge := func(n int64, greens ...int) api.Ins { return api.Ins{Op: api.InsMerge, K: n, L: greens} }
	ret := api.Ins{Op: api.InsRet}
	for first := range int64(3) {
		for second := range int64(3) {
			// In one function, with others between and with none.
			one := host(merge(first, 1))
			one.Funcs[0].Code[0] = merge(second)
			two := host(merge(first))
			two.Funcs[0].Code[2] = merge(second, 0, 1)
			two.Funcs[1].Code = []api.Ins{ret}
			three := host(merge(first))
			three.Funcs[1].Code = []api.Ins{{Op: api.InsStep}, merge(second), ret}
			if first != second {
				wantCheck(t, one, 0, 0, api.OK)
				wantCheck(t, two, 0, 0, api.OK)
				wantCheck(t, three, 0, 0, api.OK)
				continue
			}
			wantCheck(t, one, 0, 1, api.ErrCode)
			wantCheck(t, two, 0, 2, api.ErrCode)
			wantCheck(t, three, 1, 1, api.ErrCode)
		}
	}
	// Numbers need not rise, nor all be there; each code is looked at anew.
	c := host(merge(2))
	c.Funcs[0].Code[2] = merge(0)
	for range 3 {
		wantCheck(t, c, 0, 0, api.OK)
	}
	// With many between.
	c.Merges = 300
	c.Funcs[1].Code = nil
	for n := range int64(300) {
		if n != 2 && n != 0 {
			c.Funcs[1].Code = append(c.Funcs[1].Code, merge(n))
		}
	}
	c.Funcs[1].Code = append(c.Funcs[1].Code, ret)
	wantCheck(t, c, 0, 0, api.OK)
	c.Funcs[1].Code[298] = merge(1)
	wantCheck(t, c, 1, 298, api.ErrCode)
}

func TestLastInstruction(t *testing.T) { // P10.1
	for op := 1; op <= ops; op++ {
		i := sample(op)
		if op == api.InsJump || op == api.InsZero {
			i.K = 0
		}
		c := host(sample(api.InsStep))
		c.Funcs[0].Code[3] = i
		if op == api.InsJump || op == api.InsRet || op == api.InsStop {
			wantCheck(t, c, 0, 0, api.OK)
		} else {
			wantCheck(t, c, 0, 3, api.ErrCode)
		}
	}
	// The only one, and that of another function than the first.
	for _, op := range []int{api.InsRet, api.InsStop, api.InsStep, api.InsNum} {
		c := host(sample(api.InsStep))
		c.Funcs[1].Code = []api.Ins{{Op: op}}
		if op == api.InsRet || op == api.InsStop {
			wantCheck(t, c, 0, 0, api.OK)
		} else {
			wantCheck(t, c, 1, 0, api.ErrCode)
		}
	}
	// Elsewhere what ends a function may stand anywhere.
	c := host(sample(api.InsRet))
	c.Funcs[0].Code[0], c.Funcs[0].Code[2] = sample(api.InsStop), sample(api.InsJump)
	wantCheck(t, c, 0, 0, api.OK)
}
