package interp

import (
	"math"
	"testing"

	"swath/api"
)

// TestNewAtTheEdges has sorts, fields and cells at their bounds.
func TestNewAtTheEdges(t *testing.T) { // 13.1
	for _, sort := range []int64{0, 1, 999, 1000} {
		for _, fields := range []int{0, 1, 2, 999, 1000} {
			c := mainOf(2, insNew(1, fields, sort), insSetRoot(1), insRet(1))
			for _, cells := range []int{fields + 1, fields + 2, math.MaxInt} {
				h := wantResult(t, c, wide.cells(cells), api.Result{Value: ref(0), Cells: fields + 1})
				if o, is := h.Obj(ref(0)); !is || int64(o.Rec) != sort || len(o.Cells) != fields {
					t.Error(sort, fields, o.Rec, len(o.Cells))
				}
			}
			for _, cells := range []int{math.MinInt, -1, 0, fields} {
				wantResult(t, c, wide.cells(min(cells, fields)), stuck(api.TrapCells))
			}
		}
	}
}

// TestGetAndPutAtTheEdges has records of many sorts and cells asked for by each sort and cell.
func TestGetAndPutAtTheEdges(t *testing.T) { // 13.1
	for _, sort := range []int64{0, 1, 999, 1000} {
		for _, fields := range []int{0, 1, 2, 999, 1000} {
			for _, as := range []int64{0, 1, 2, 999, 1000} {
				for _, at := range []int{0, 1, 2, 998, 999, 1000} {
					get := mainOf(2, insNew(0, fields, sort), insGet(1, 0, at, as), insOut(1), insNum(1, 9), insRet(1))
					put := mainOf(2, insNew(0, fields, sort), insNum(1, 5), insPut(0, 1, at, as), insGet(1, 0, at, as), insOut(1), insRet(1))
					cells := fields + 1
					if as == sort && at < fields {
						wantResult(t, get, wide, api.Result{Value: num(9), Out: []int64{0}, Cells: cells})
						wantResult(t, put, wide, api.Result{Value: num(5), Out: []int64{5}, Cells: cells})
						continue
					}
					want := stuck(api.TrapType)
					want.Cells = cells
					wantResult(t, get, wide, want)
					wantResult(t, put, wide, want)
				}
			}
		}
	}
}

// TestArraysAtTheEdges has lengths at their bounds, and each cell asked for.
func TestArraysAtTheEdges(t *testing.T) { // 13.1
	for _, n := range []int64{0, 1, 2, 100} {
		made := mainOf(3, insNum(0, n), insArr(0, 0), insLen(1, 0), insOut(1), insRet(0))
		wantResult(t, made, wide.cells(int(n)+1), api.Result{Value: ref(0), Out: []int64{n}, Cells: int(n) + 1})
		wantResult(t, made, wide.cells(int(n)), stuck(api.TrapCells))
		for _, at := range append([]int64{n - 1, n, n + 1, -n}, edges...) {
			get := mainOf(3, insNum(0, n), insArr(0, 0), insNum(1, at), insElem(2, 0, 1), insRet(2))
			set := mainOf(3, insNum(0, n), insArr(0, 0), insNum(1, at), insSetElem(0, 1, 0), insElem(2, 0, 1), insRet(2))
			if at >= 0 && at < n {
				wantResult(t, get, wide, api.Result{Value: num(0), Cells: int(n) + 1})
				wantResult(t, set, wide, api.Result{Value: ref(0), Cells: int(n) + 1})
				continue
			}
			want := stuck(api.TrapIndex)
			want.Cells = int(n) + 1
			wantResult(t, get, wide, want)
			wantResult(t, set, wide, want)
		}
	}
	for _, n := range []int64{-1, -2, -1 << 32, math.MinInt64} {
		wantResult(t, mainOf(1, insNum(0, n), insArr(0, 0), insRet(0)), wide, stuck(api.TrapIndex))
	}
	for _, n := range []int64{5000, 9999999, 10000000, 1 << 32, 1<<32 + 1, math.MaxInt64} {
		wantResult(t, mainOf(1, insNum(0, n), insArr(0, 0), insRet(0)), wide, stuck(api.TrapCells))
	}
	great := mainOf(1, insIn(0), insArr(0, 0), insRet(0))
	wantResult(t, great, given{input: []int64{9999999}, lim: api.Limits{Cells: math.MaxInt}}, api.Result{Value: ref(0), Read: 1, Cells: 10000000})
	wantResult(t, great, given{input: []int64{10000000}, lim: api.Limits{Cells: math.MaxInt}}, api.Result{End: api.EndTrap, Trap: api.TrapCells, Read: 1})
}

// TestCellsInAll has things of both kinds share one limit.
func TestCellsInAll(t *testing.T) { // 13.1
	c := mainOf(2, insNum(0, 3), insNew(1, 2, 0), insArr(1, 0), insOut(0), insNew(1, 0, 9), insNum(0, 0), insArr(1, 0), insOut(0), insRet(1))
	for cells := range 12 {
		want := api.Result{End: api.EndTrap, Trap: api.TrapCells}
		for n, from := range []int{3, 7, 8, 9} {
			if cells >= from {
				want.Cells = from
				want.Out = [][]int64{nil, {3}, {3}, {3, 0}}[n]
			}
		}
		if cells >= 9 {
			want.End, want.Trap, want.Value = api.EndHalt, 0, ref(3)
		}
		wantResult(t, c, wide.cells(cells), want)
	}
}

// TestThingsAreShared: a thing that two registers, a cell and the root hold is one.
func TestThingsAreShared(t *testing.T) { // 13.1
	c := mainOf(4, insNew(0, 2, 3), insMove(1, 0), insPut(0, 1, 0, 3), insSetRoot(1), insNum(2, 8), insPut(1, 2, 1, 3), insRoot(3), insGet(3, 3, 0, 3), insGet(3, 3, 0, 3), insGet(3, 3, 1, 3), insRet(3))
	wantResult(t, c, wide, api.Result{Value: num(8), Cells: 3})
}
