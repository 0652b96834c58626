package live

import (
	"fmt"
	"math"
	"slices"
	"strings"
	"testing"

	"swath/api"
	"swath/ir"
)

const ops = 28

// chapter is what chapter 10's table says that instructions read and write, by their numbers: fields ahead of and behind a line.
const chapter = "|,|A,|A,B|A,BC|A,B|A,BC|A,BC|A,B|A,AB|,BC|A,ABC|,B|A,|A,B|A,|A,A|,B|A,|A,|A,A|,|,A|,L|A,A|,A|,|,L|,B|A"

// column are the registers of an instruction's fields that stand in a column of the table; none of no Op.
func column(i api.Ins, which int) []int {
	if i.Op < 1 || i.Op > ops {
		return nil
	}
	var l []int
	for _, field := range strings.Split(strings.Split(chapter, ",")[i.Op], "|")[which] {
		l = append(l, map[rune][]int{'A': {i.A}, 'B': {i.B}, 'C': {i.C}, 'L': i.L}[field]...)
	}
	return l
}

// follows tells whether the code may go on at a place behind another one, as chapter 10 says it.
func follows(f api.Func, at, place int) bool {
	i := f.Code[at]
	behind, there := place == at+1, int64(place) == i.K
	switch i.Op {
	case api.InsJump:
		return there
	case api.InsZero:
		return behind || there
	case api.InsRet, api.InsStop:
		return false
	}
	return behind
}

// reckon is the tests' own Tables: all sets are grown, over and over, until none grows.
func reckon(f api.Func) [][]int {
	sets := make([]map[int]int, len(f.Code))
	for at := range sets {
		sets[at] = map[int]int{}
	}
	for grown := true; grown; {
		grown = false
		for at, i := range f.Code {
			want := column(i, 0)
			for place := range f.Code {
				if !follows(f, at, place) {
					continue
				}
				for n := range sets[place] {
					if !slices.Contains(column(i, 1), n) {
						want = append(want, n)
					}
				}
			}
			for _, n := range want {
				if counted(n, f.Regs) && sets[at][n] == 0 {
					sets[at][n] = 1
					grown = true
				}
			}
		}
	}
	return listed(sets)
}

// listed are the keys of maps, rising.
func listed(sets []map[int]int) [][]int {
	l := make([][]int, len(sets))
	for at, s := range sets {
		for n := range s {
			l[at] = append(l[at], n)
		}
		slices.Sort(l[at])
	}
	return l
}

// unwanted is the tests' own Dead, of what is live. A register that there isn't is none that is written for nothing.
func unwanted(f api.Func, live [][]int) []int {
	var l []int
	for at, i := range f.Code {
		written := column(i, 1)
		if len(written) == 0 || !counted(written[0], f.Regs) {
			continue
		}
		is := false
		for place := range f.Code {
			is = is || follows(f, at, place) && slices.Contains(live[place], written[0])
		}
		if !is {
			l = append(l, at)
		}
	}
	return l
}

func sameLists(a, b [][]int) bool { return slices.EqualFunc(a, b, slices.Equal[[]int]) }

// wantLive wants a function to have these tables and these dead instructions.
func wantLive(t testing.TB, f api.Func, live [][]int, dead ...int) {
	t.Helper()
	if l := Tables(f); !sameLists(l, live) {
		t.Errorf("%.600s are live; wanted %.600s of\n%.1000s", fmt.Sprint(l), fmt.Sprint(live), ir.Show(f))
	}
	if l := Dead(f); !slices.Equal(l, dead) {
		t.Errorf("%.600s are dead; wanted %.600s of\n%.1000s", fmt.Sprint(l), fmt.Sprint(dead), ir.Show(f))
	}
}

// wantReckoned wants of a function what the tests' own reckoning says, and answers it.
func wantReckoned(t testing.TB, f api.Func) ([][]int, []int) {
	t.Helper()
	live := reckon(f)
	dead := unwanted(f, live)
	wantLive(t, f, live, dead...)
	return live, dead
}

// of is a function of so many registers with that code.
func of(regs int, code ...api.Ins) api.Func { return api.Func{Name: "f", Regs: regs, Code: code} }

// The instructions that tests by hand use most.
func num(a int) api.Ins               { return api.Ins{Op: api.InsNum, A: a, K: 7} }
func move(a, b int) api.Ins           { return api.Ins{Op: api.InsMove, A: a, B: b} }
func add(a, b, c int) api.Ins         { return api.Ins{Op: api.InsBin, A: a, B: b, C: c, K: api.OpAdd} }
func out(a int) api.Ins               { return api.Ins{Op: api.InsOut, A: a} }
func jump(k int64) api.Ins            { return api.Ins{Op: api.InsJump, K: k} }
func zero(a int, k int64) api.Ins     { return api.Ins{Op: api.InsZero, A: a, K: k} }
func ret(a int) api.Ins               { return api.Ins{Op: api.InsRet, A: a} }
func call(a int, l ...int) api.Ins    { return api.Ins{Op: api.InsCall, A: a, L: l} }
func merge(k int64, l ...int) api.Ins { return api.Ins{Op: api.InsMerge, K: k, L: l} }

var step = api.Ins{Op: api.InsStep}

// oddOps are Ops that are none.
var oddOps = []int{0, -1, -28, 29, 30, 100, 256 + 1, 1<<32 + 1, math.MaxInt, math.MinInt}

// copied is a function that shares nothing with f, with room behind its lists.
func copied(f api.Func) api.Func {
	code := make([]api.Ins, len(f.Code), len(f.Code)+2)
	for at, i := range f.Code {
		code[at] = i
		code[at].L = append(make([]int, 0, len(i.L)+2), i.L...)
	}
	f.Code = code
	return f
}

// alike tells whether functions are: ir.Same, of codes with nothing else.
func alike(f, g api.Func) bool {
	return f.Params == g.Params && ir.Same(api.Code{Funcs: []api.Func{f}}, api.Code{Funcs: []api.Func{g}})
}
