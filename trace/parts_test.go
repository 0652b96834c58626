package trace

import (
	"fmt"
	"math"
	"reflect"
	"slices"
	"strings"
	"testing"

	"swath/api"
)

// chapter is the chapter's table, a line for each operation: its number and name, its arguments, the bounds of its K and its C, whether it makes a value, whether it may leave.
const chapter = `4 bin | 2 | 1 12 | | makes | leaves
5 un | 1 | 13 15 | | makes | leaves
6 eq | 2 | | | makes |
7 ne | 2 | | | makes |
8 get | 1 | 0 1000 | 0 1000 | makes | leaves
9 put | 2 | 0 1000 | 0 1000 | | leaves
10 elem | 2 | | | makes | leaves
11 setelem | 3 | | | | leaves
12 len | 1 | | | makes | leaves
13 new | 0 | 0 1000 | 0 1000 | makes | leaves
14 arr | 1 | | | makes | leaves
15 in | 0 | | | makes |
16 out | 1 | | | | leaves
17 img | 1 | | | makes | leaves
19 root | 0 | | | makes |
20 setroot | 1 | | | |
26 step | 0 | | | | leaves
30 yes | 1 | | | | leaves
31 no | 1 | | | | leaves
32 is | 2 | | | | leaves
33 depth | 0 | 0 1000000 | | | leaves
34 charge | 0 | 0 1000000 | | | leaves
35 lay | any | 0 1000 | | makes |`

// line is a line of the table; args is -1 of any number of them.
type line struct {
	op, args      int
	name          string
	k, c          [2]int64
	makes, leaves bool
}

// lines has the table's lines in their order.
var lines = func() []line {
	var l []line
	for s := range strings.Lines(chapter) {
		parts := strings.Split(s, "|")
		n := line{args: -1, makes: strings.TrimSpace(parts[4]) == "makes", leaves: strings.TrimSpace(parts[5]) == "leaves"}
		fmt.Sscan(parts[0], &n.op, &n.name)
		fmt.Sscan(parts[1], &n.args)
		fmt.Sscan(parts[2], &n.k[0], &n.k[1])
		fmt.Sscan(parts[3], &n.c[0], &n.c[1])
		l = append(l, n)
	}
	return l
}()

// lineOf is the table's line of an operation, and whether there is one.
func lineOf(op int) (line, bool) {
	at := slices.IndexFunc(lines, func(l line) bool { return l.op == op })
	if at < 0 {
		return line{}, false
	}
	return lines[at], true
}

// oddOps are numbers that are no operations.
var oddOps = []int{math.MinInt, -35, -4, -1, 0, 1, 2, 3, 18, 21, 22, 23, 24, 25, 27, 28, 29, 36, 37, 100, 256 + 4, 1<<32 + 4, 1<<32 + 35, math.MaxInt - 31, math.MaxInt}

// far are numbers far from all bounds, or just behind those of some kinds of numbers.
var far = []int64{math.MinInt64, math.MinInt64 + 1, -1 << 32, -1001, -2, 1<<32 - 1, 1 << 32, 1<<32 + 1, 1<<32 + 4, math.MaxInt64 - 1, math.MaxInt64}

func v(n int) api.Src { return api.Src{Kind: api.SrcVar, N: n} }

func w(n int) api.Src { return api.Src{Kind: api.SrcVirt, N: n} }

func num(n int64) api.Src { return con(api.Value{N: n}) }

func con(v api.Value) api.Src { return api.Src{Kind: api.SrcConst, Val: v} }

// constants are constants of all kinds of values, also of such as no heap has.
var constants = []api.Src{num(0), num(7), num(-1), num(math.MinInt64), num(math.MaxInt64), con(api.Value{Kind: api.Null}), con(api.Value{Kind: api.Null, N: 3}), con(api.Value{Kind: api.Ref}),
	con(api.Value{Kind: api.Ref, N: 5}), con(api.Value{Kind: api.Ref, N: -5}), con(api.Value{Kind: 3}), con(api.Value{Kind: -1, N: 9}), con(api.Value{Kind: math.MaxInt})}

// badSources are wrong wherever they stand in a trace with fewer than 100 Virts.
var badSources = []api.Src{
	{N: 1}, {N: -1}, {N: math.MaxInt}, {N: math.MinInt}, {Val: api.Value{N: 4}, N: 1},
	{Kind: api.SrcVar, N: -1}, {Kind: api.SrcVar, N: math.MinInt}, {Kind: api.SrcVar, Val: api.Value{N: 1}}, {Kind: api.SrcVar, Val: api.Value{Kind: api.Null}}, {Kind: api.SrcVar, Val: api.Value{Kind: api.Ref, N: 1}},
	{Kind: api.SrcVirt, N: -1}, {Kind: api.SrcVirt, N: 100}, {Kind: api.SrcVirt, N: math.MaxInt}, {Kind: api.SrcVirt, N: math.MinInt}, {Kind: api.SrcVirt, Val: api.Value{N: 1}}, {Kind: api.SrcVirt, Val: api.Value{Kind: api.Null}},
	{Kind: 3}, {Kind: -1}, {Kind: 256}, {Kind: 257}, {Kind: 1 << 32}, {Kind: math.MaxInt}, {Kind: math.MinInt}, {Kind: -1, N: 1}, {Kind: 3, Val: api.Value{N: 1}},
}

// sample is an operation with all that it has, right in host; its Snap is -1.
func sample(op int) api.Op {
	l, _ := lineOf(op)
	o := api.Op{Op: op, K: l.k[1], C: int(l.c[1]), Snap: -1}
	all := []api.Src{v(0), num(5), v(3)}
	o.Args = all[:max(l.args, 0)]
	if op == api.OpLay {
		o.Args = all
	}
	return o
}

// here is where host has the operation that it is made for.
const here = 2

// host is a right trace with an operation at place 2 of 4: inputs are v0 to v2, v3 and v6 are made by others, v4 is made by none, v5 is the operation's own.
// Link 3 stands alone, 2 on 1 on 0. The first three Virts are a ring, the last one is held by link 1 alone.
func host(o api.Op) api.Trace {
	return api.Trace{
		Key: api.Key{Merge: 3, N: 1, Greens: [api.MaxGreens]api.Value{{N: 9}}},
		Fn:  1,
		Pc:  7,
		Ins: []int{0, 2, 999},
		Ops: []api.Op{{Op: api.InsIn, Snap: -1}, {Op: api.InsStep, Snap: 3}, o, {Op: api.InsNew, K: 4, C: 2, Snap: 2}},
		Links: []api.Link{
			{Up: -1, Fn: 1, Pc: 7, Into: -1, Regs: []api.Src{v(0), num(4), w(0)}},
			{Up: 0, Fn: 2, Pc: 3, Into: 1, Regs: []api.Src{w(3), v(3)}},
			{Up: 1, Fn: 2, Pc: 4, Into: 0},
			{Up: -1, Regs: []api.Src{v(2)}},
		},
		Virts: []api.Virt{
			{Rec: 0, Cells: []api.Src{v(1), w(1)}},
			{Rec: 1000, Cells: []api.Src{w(2), w(1), num(6)}},
			{Rec: 2, Cells: []api.Src{w(0)}},
			{Rec: 3, Cells: []api.Src{v(3)}},
		},
		Back: []api.Src{v(6), num(8), v(0)},
	}
}

// plain is a right operation that takes nothing.
func plain() api.Op { return api.Op{Op: api.InsIn, Snap: -1} }

// copied is a trace in memory of its own.
func copied(t api.Trace) api.Trace {
	t.Ins, t.Ops, t.Links, t.Virts, t.Back = slices.Clone(t.Ins), slices.Clone(t.Ops), slices.Clone(t.Links), slices.Clone(t.Virts), slices.Clone(t.Back)
	for n := range t.Ops {
		t.Ops[n].Args = slices.Clone(t.Ops[n].Args)
	}
	for n := range t.Links {
		t.Links[n].Regs = slices.Clone(t.Links[n].Regs)
	}
	for n := range t.Virts {
		t.Virts[n].Cells = slices.Clone(t.Virts[n].Cells)
	}
	return t
}

// text is a trace as a text: no two that differ by more than a nil list instead of an empty one have the same.
func text(t api.Trace) string { return fmt.Sprintf("%+v", t) }

// parts are all numbers and lists of a trace, as they may be set, always in one order.
func parts(t *api.Trace) []reflect.Value {
	var all []reflect.Value
	var into func(of reflect.Value)
	into = func(of reflect.Value) {
		switch of.Kind() {
		case reflect.Struct:
			for n := range of.NumField() {
				into(of.Field(n))
			}
			return
		case reflect.Slice:
			all = append(all, of)
		case reflect.Int, reflect.Int64:
			all = append(all, of)
			return
		}
		for n := range of.Len() {
			into(of.Index(n))
		}
	}
	into(reflect.ValueOf(t).Elem())
	return all
}

// wantCheck wants the place and error that are told of a trace.
func wantCheck(t *testing.T, x api.Trace, at int, e api.Errno) {
	t.Helper()
	if gotAt, got := Check(x); gotAt != at || got != e {
		t.Errorf("Check is %d, %d; wanted %d, %d of %.1000s", gotAt, got, at, e, text(x))
	}
}

// wantFault wants a trace to be wrong at a place, or right, if that is below 0.
func wantFault(t *testing.T, x api.Trace, at int) {
	t.Helper()
	if at < 0 {
		wantCheck(t, x, 0, api.OK)
	} else {
		wantCheck(t, x, at, api.ErrTrace)
	}
}

// wantRight wants an operation to be right, or wrong, in host.
func wantRight(t *testing.T, o api.Op, right bool) {
	t.Helper()
	if right {
		wantFault(t, host(o), -1)
	} else {
		wantFault(t, host(o), here)
	}
}
