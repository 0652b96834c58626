package ir

import (
	"math"
	"slices"
	"strings"
	"testing"

	"swath/api"
)

// chapter is the chapter's table, a line for each instruction: its number and name, its fields, what it reads, what it writes.
const chapter = `1 num | A K | | A
2 null | A | | A
3 move | A B | B | A
4 bin | A B C K | B C | A
5 un | A B K | B | A
6 eq | A B C | B C | A
7 ne | A B C | B C | A
8 get | A B C K | B | A
9 put | A B C K | A B |
10 elem | A B C | B C | A
11 setelem | A B C | A B C |
12 len | A B | B | A
13 new | A C K | | A
14 arr | A B | B | A
15 in | A | | A
16 out | A | A |
17 img | A B | B | A
18 size | A | | A
19 root | A | | A
20 setroot | A | A |
21 jump | K | |
22 zero | A K | A |
23 call | A K L | L | A
24 ret | A | A |
25 stop | A | A |
26 step | | |
27 merge | K L | L |
28 promote | A B | B | A`

const ops = 28

// line is a line of the table.
type line struct {
	name                  string
	fields, reads, writes []string
}

// lines has the table's lines at the instructions' numbers; nothing at 0.
var lines = func() []line {
	l := make([]line, 1)
	for s := range strings.Lines(chapter) {
		parts := strings.Split(s, "|")
		l = append(l, line{strings.Fields(parts[0])[1], strings.Fields(parts[1]), strings.Fields(parts[2]), strings.Fields(parts[3])})
	}
	return l
}()

// oddOps are Ops that are none.
var oddOps = []int{0, -1, -28, 29, 30, 31, 100, 1 << 32, 1<<32 + 1, 256 + 1, math.MaxInt, math.MinInt}

// cellOps are the instructions whose C is a cell's number.
var cellOps = []int{api.InsGet, api.InsPut, api.InsNew}

func has(op int, field string) bool { return slices.Contains(lines[op].fields, field) }

// isRegister tells whether a field of one number is a register.
func isRegister(op int, field string) bool {
	return has(op, field) && field != "K" && field != "L" && (field != "C" || !slices.Contains(cellOps, op))
}

// with is an instruction with n in one of its fields; in L it is the only register.
func with(i api.Ins, field string, n int64) api.Ins {
	switch field {
	case "A":
		i.A = int(n)
	case "B":
		i.B = int(n)
	case "C":
		i.C = int(n)
	case "K":
		i.K = n
	case "L":
		i.L = []int{int(n)}
	}
	return i
}

// sample is an instruction with all of its fields, each with a number of its own, right in host.
func sample(op int) api.Ins {
	i := api.Ins{Op: op}
	for n, field := range []string{"A", "B", "C", "K"} {
		if has(op, field) {
			i = with(i, field, int64(n+1))
		}
	}
	switch op {
	case api.InsNum:
		i.K = -7
	case api.InsUn:
		i.K = api.OpNot
	case api.InsJump, api.InsZero:
		i.K = 3
	case api.InsCall:
		i.K, i.L = 1, []int{4, 0}
	case api.InsMerge:
		i.K, i.L = 1, []int{3, 0, 2}
	}
	return i
}

// here is where host has the instruction that it is made for.
const here = 1

// host is right code with an instruction in function 0 at place 1: 5 registers, 4 instructions, 3 merges; function 1 has 2 parameters.
func host(i api.Ins) api.Code {
	step := api.Ins{Op: api.InsStep}
	return api.Code{
		Funcs: []api.Func{
			{Name: "main", Regs: 5, Code: []api.Ins{step, i, step, {Op: api.InsRet, A: 4}}},
			{Name: "f", Params: 2, Regs: 3, Code: []api.Ins{{Op: api.InsRet, A: 1}}},
		},
		Merges: 3,
	}
}

// copied is code in memory of its own.
func copied(c api.Code) api.Code {
	c.Funcs = slices.Clone(c.Funcs)
	for f := range c.Funcs {
		c.Funcs[f].Code = slices.Clone(c.Funcs[f].Code)
		for i := range c.Funcs[f].Code {
			c.Funcs[f].Code[i].L = slices.Clone(c.Funcs[f].Code[i].L)
		}
	}
	return c
}

func wantCheck(t *testing.T, c api.Code, f, i int, e api.Errno) {
	t.Helper()
	if gotF, gotI, got := Check(c); gotF != f || gotI != i || got != e {
		t.Errorf("Check is %d, %d, %d; wanted %d, %d, %d of %.1000v", gotF, gotI, got, f, i, e, c)
	}
}

// wantRight wants an instruction to be right, or wrong, in host.
func wantRight(t *testing.T, i api.Ins, right bool) {
	t.Helper()
	if right {
		wantCheck(t, host(i), 0, 0, api.OK)
	} else {
		wantCheck(t, host(i), 0, here, api.ErrCode)
	}
}
