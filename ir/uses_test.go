package ir

import (
	"math"
	"slices"
	"testing"

	"swath/api"
)

// named are the registers of an instruction's fields, in order.
func named(i api.Ins, fields []string) []int {
	var l []int
	for _, field := range fields {
		l = append(l, map[string][]int{"A": {i.A}, "B": {i.B}, "C": {i.C}, "L": i.L}[field]...)
	}
	return l
}

// wantUses wants of an instruction's Reads and Writes what the table says.
func wantUses(t *testing.T, i api.Ins) {
	t.Helper()
	var reads []int
	writes := -1
	if i.Op >= 1 && i.Op <= ops {
		reads = named(i, lines[i.Op].reads)
		if l := named(i, lines[i.Op].writes); len(l) > 0 {
			writes = l[0]
		}
	}
	if l := Reads(i); !slices.Equal(l, reads) {
		t.Errorf("%v reads %v; wanted %v", i, l, reads)
	}
	if n := Writes(i); n != writes {
		t.Errorf("%v writes %v; wanted %v", i, n, writes)
	}
}

func TestUses(t *testing.T) { // P10.3
	for op := 1; op <= ops; op++ {
		wantUses(t, sample(op))
		wantUses(t, api.Ins{Op: op, A: 11, B: 12, C: 13, K: 14, L: []int{18, 15, 17, 15}})
		// A register that is read twice stands twice.
		wantUses(t, api.Ins{Op: op, A: 3, B: 3, C: 3, L: []int{3, 3}})
		wantUses(t, api.Ins{Op: op})
		for _, n := range []int{-1, 1000, math.MaxInt, math.MinInt} {
			wantUses(t, api.Ins{Op: op, A: n, B: n, C: n, K: int64(n), L: []int{n, 1, n}})
		}
	}
	for _, op := range oddOps {
		wantUses(t, api.Ins{Op: op, A: 11, B: 12, C: 13, K: 14, L: []int{15}})
	}
}

// TestUsesByHand has what some instructions read and write, apart from the table.
func TestUsesByHand(t *testing.T) { // P10.3
	for _, want := range []struct {
		op     int
		reads  []int
		writes int
	}{
		{0, nil, -1}, {api.InsNum, nil, 1}, {api.InsMove, []int{2}, 1}, {api.InsBin, []int{2, 3}, 1}, {api.InsGet, []int{2}, 1}, {api.InsPut, []int{1, 2}, -1},
		{api.InsSetElem, []int{1, 2, 3}, -1}, {api.InsNew, nil, 1}, {api.InsOut, []int{1}, -1}, {api.InsJump, nil, -1}, {api.InsZero, []int{1}, -1},
		{api.InsCall, []int{4, 0, 4}, 1}, {api.InsRet, []int{1}, -1}, {api.InsStep, nil, -1}, {api.InsMerge, []int{4, 0, 4}, -1}, {api.InsPromote, []int{2}, 1}, {29, nil, -1},
	} {
		i := api.Ins{Op: want.op, A: 1, B: 2, C: 3, K: 9, L: []int{4, 0, 4}}
		if l := Reads(i); !slices.Equal(l, want.reads) {
			t.Errorf("%v reads %v", i, l)
		}
		if n := Writes(i); n != want.writes {
			t.Errorf("%v writes %v", i, n)
		}
	}
}

func TestReadsInNewMemory(t *testing.T) { // P10.3, P2
	for _, op := range []int{api.InsCall, api.InsMerge} {
		all := []int{1, 2, 3, 4, 5}
		i := api.Ins{Op: op, L: all[:3]}
		l := Reads(i)
		l[0] = 99
		l = append(l, 98)
		if !slices.Equal(all, []int{1, 2, 3, 4, 5}) || !slices.Equal(Reads(i), []int{1, 2, 3}) {
			t.Error(l, all, Reads(i))
		}
		all[1] = 97
		if l[1] != 2 {
			t.Error("the answer changes with the argument")
		}
	}
}

// follows tells whether the code may go on at a place, as the chapter says it.
func follows(f api.Func, at, place int) bool {
	if at < 0 || at >= len(f.Code) {
		return false
	}
	i := f.Code[at]
	behind, there := place == at+1, int64(place) == i.K
	switch i.Op {
	case api.InsJump:
		return there
	case api.InsZero:
		return behind || there
	case api.InsRet, api.InsStop:
		return false
	}
	return behind
}

// wantNext wants of each place of a function, and of some beside, where it goes on.
func wantNext(t *testing.T, f api.Func) {
	t.Helper()
	n := len(f.Code)
	places := []int{math.MinInt, -n - 1, -2, -1, n, n + 1, 2 * n, math.MaxInt}
	for at := range n {
		places = append(places, at)
	}
	for _, at := range places {
		var want []int
		for place := range n {
			if follows(f, at, place) {
				want = append(want, place)
			}
		}
		if l := Next(f, at); !slices.Equal(l, want) {
			t.Errorf("behind %d comes %v; wanted %v of %.300v", at, l, want, f.Code)
		}
	}
}

func TestNext(t *testing.T) { // P10.4
	targets := []int64{0, 1, 2, 3, 4, 5, -1, -2, 1 << 32, 1<<32 + 1, math.MaxInt64, math.MinInt64}
	for _, op := range append(slices.Clone(oddOps), 1, 2, 3, 4, 5, 6, 7, 8, 9, 10, 11, 12, 13, 14, 15, 16, 17, 18, 19, 20, 21, 22, 23, 24, 25, 26, 27, 28) {
		for _, n := range targets {
			i := api.Ins{Op: op, A: 2, B: 3, C: 1, K: n, L: []int{0, 1}}
			for _, length := range []int{1, 2, 4} {
				for at := range length {
					f := api.Func{Code: make([]api.Ins, length)}
					for p := range length {
						f.Code[p] = sample(api.InsOut)
					}
					f.Code[at] = i
					wantNext(t, f)
				}
			}
		}
	}
	wantNext(t, api.Func{})
	wantNext(t, api.Func{Params: 7, Regs: 3, Code: []api.Ins{}})
}

// TestNextByHand has where some code goes on, apart from the model.
func TestNextByHand(t *testing.T) { // P10.4
	zero := func(n int64) api.Ins { return api.Ins{Op: api.InsZero, K: n} }
	jump := func(n int64) api.Ins { return api.Ins{Op: api.InsJump, K: n} }
	f := api.Func{Code: []api.Ins{zero(3), zero(2), zero(0), zero(3), jump(4), jump(0), jump(8), {Op: api.InsRet}}}
	for at, want := range [][]int{{1, 3}, {2}, {0, 3}, {3, 4}, {4}, {0}, nil, nil, nil} {
		if l := Next(f, at); !slices.Equal(l, want) {
			t.Errorf("behind %d comes %v; wanted %v", at, l, want)
		}
	}
	f.Code = append(f.Code, zero(1), zero(9), zero(11), zero(-1))
	for at, want := range map[int][]int{8: {1, 9}, 9: {9, 10}, 10: {11}, 11: nil, 6: {8}, -1: nil, 12: nil} {
		if l := Next(f, at); !slices.Equal(l, want) {
			t.Errorf("behind %d comes %v; wanted %v", at, l, want)
		}
	}
	// At the end there is no next one, though more lies behind the length.
	f.Code = f.Code[:2]
	if l := Next(f, 1); len(l) > 0 {
		t.Error(l)
	}
	f.Code[0].K = 5
	if l := Next(f, 0); !slices.Equal(l, []int{1}) {
		t.Error(l)
	}
}

func TestNextInNewMemory(t *testing.T) { // P10.4, P2
	f := api.Func{Code: []api.Ins{{Op: api.InsZero, K: 2}, {Op: api.InsRet}, {Op: api.InsRet}}}
	l := Next(f, 0)
	l[0], l[1] = 98, 99
	if !slices.Equal(Next(f, 0), []int{1, 2}) {
		t.Error(Next(f, 0))
	}
}
