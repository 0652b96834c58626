package trace

import (
	"math"
	"slices"
	"strings"
	"testing"

	"swath/api"
)

func wantText(t *testing.T, x api.Trace, want ...string) {
	t.Helper()
	if got := Show(x); got != strings.Join(want, "\n")+"\n" {
		t.Errorf("shown as\n%s", got)
	}
}

// wantLine wants a line of an operation that has v3 as its variable.
func wantLine(t *testing.T, o api.Op, want string) {
	t.Helper()
	wantText(t, api.Trace{Ins: []int{7, 8}, Ops: []api.Op{{}, o}}, "trace 0 0 7,8", "? !0", want, "back")
}

func TestShowNothing(t *testing.T) { // P16.2
	wantText(t, api.Trace{}, "trace 0 0 ", "back")
	wantText(t, api.Trace{Ins: []int{}, Ops: []api.Op{}, Links: []api.Link{}, Virts: []api.Virt{}, Back: []api.Src{}}, "trace 0 0 ", "back")
	// The key isn't told.
	wantText(t, api.Trace{Key: api.Key{Merge: 3, N: 2}}, "trace 0 0 ", "back")
}

func TestShowWhole(t *testing.T) { // P16.2
	wantText(t, host(sample(api.InsGet)),
		"trace 1 7 0,2,999",
		"v3 = in",
		"step !3",
		"v5 = get v0 k1000 c1000",
		"v6 = new k4 c2 !2",
		"back v6 8 v0",
		"l0 up-1 1:7 -1 v0 4 w0",
		"l1 up0 2:3 1 w3 v3",
		"l2 up1 2:4 0",
		"l3 up-1 0:0 0 v2",
		"w0 r0 v1 w1",
		"w1 r1000 w2 w1 6",
		"w2 r2 w0",
		"w3 r3 v3")
}

func TestShowHead(t *testing.T) { // P16.2
	wantText(t, api.Trace{Fn: 3, Pc: 14}, "trace 3 14 ", "back")
	wantText(t, api.Trace{Fn: -3, Pc: -14, Ins: []int{5}}, "trace -3 -14 5", "back")
	wantText(t, api.Trace{Fn: math.MaxInt, Pc: math.MinInt, Ins: []int{5, 5}}, "trace 9223372036854775807 -9223372036854775808 5,5", "back")
	wantText(t, api.Trace{Ins: []int{3, -1, 0, math.MinInt, math.MaxInt}}, "trace 0 0 3,-1,0,-9223372036854775808,9223372036854775807", "back")
}

// TestShowOperations has each operation with all that it has, with nothing, and with what it hasn't.
func TestShowOperations(t *testing.T) { // P16.2
	for op, want := range map[int]string{
		api.InsBin: "v3 = bin", api.InsUn: "v3 = un", api.InsEq: "v3 = eq", api.InsNe: "v3 = ne", api.InsGet: "v3 = get", api.InsPut: "put", api.InsElem: "v3 = elem",
		api.InsSetElem: "setelem", api.InsLen: "v3 = len", api.InsNew: "v3 = new", api.InsArr: "v3 = arr", api.InsIn: "v3 = in", api.InsOut: "out", api.InsImg: "v3 = img",
		api.InsRoot: "v3 = root", api.InsSetRoot: "setroot", api.InsStep: "step", api.OpYes: "yes", api.OpNo: "no", api.OpIs: "is", api.OpDepth: "depth",
		api.OpCharge: "charge", api.OpLay: "v3 = lay",
	} {
		wantLine(t, api.Op{Op: op, Snap: -1}, want)
		wantLine(t, api.Op{Op: op, Args: []api.Src{v(1), num(-5)}, K: 7, C: 9, Snap: 4}, want+" v1 -5 k7 c9 !4")
	}
	for _, op := range oddOps {
		wantLine(t, api.Op{Op: op, Snap: -1}, "?")
		wantLine(t, api.Op{Op: op, Args: []api.Src{v(1), num(-5)}, K: 7, C: 9, Snap: 4}, "? v1 -5 k7 c9 !4")
	}
	for op := -50; op < 300; op++ {
		if _, is := lineOf(op); !is {
			wantLine(t, api.Op{Op: op, Snap: -1}, "?")
		}
	}
}

func TestShowFields(t *testing.T) { // P16.2
	for _, c := range []struct {
		k       int64
		c, snap int
		want    string
	}{
		{0, 0, -1, "step"}, {0, 0, 0, "step !0"}, {1, 0, -1, "step k1"}, {0, 1, -1, "step c1"}, {-1, -1, -2, "step k-1 c-1 !-2"}, {0, 2, 1, "step c2 !1"}, {2, 0, 1, "step k2 !1"},
		{math.MinInt64, math.MinInt, math.MinInt, "step k-9223372036854775808 c-9223372036854775808 !-9223372036854775808"},
		{math.MaxInt64, math.MaxInt, math.MaxInt, "step k9223372036854775807 c9223372036854775807 !9223372036854775807"},
	} {
		wantLine(t, api.Op{Op: api.InsStep, K: c.k, C: c.c, Snap: c.snap}, c.want)
	}
}

// sourceTexts are sources of all kinds, each with what it is told as.
var sourceTexts = []struct {
	s    api.Src
	want string
}{
	{num(0), "0"}, {num(5), "5"}, {num(-5), "-5"}, {num(math.MaxInt64), "9223372036854775807"}, {num(math.MinInt64), "-9223372036854775808"},
	{con(api.Value{Kind: api.Null}), "null"}, {con(api.Value{Kind: api.Null, N: 4}), "null"},
	{con(api.Value{Kind: api.Ref}), "@0"}, {con(api.Value{Kind: api.Ref, N: 12}), "@12"}, {con(api.Value{Kind: api.Ref, N: -1}), "@-1"},
	{con(api.Value{Kind: api.Ref, N: math.MaxInt64}), "@9223372036854775807"}, {con(api.Value{Kind: api.Ref, N: math.MinInt64}), "@-9223372036854775808"},
	{con(api.Value{Kind: 3, N: 4}), "?"}, {con(api.Value{Kind: -1}), "?"}, {con(api.Value{Kind: 256}), "?"}, {con(api.Value{Kind: math.MinInt}), "?"},
	{v(0), "v0"}, {v(7), "v7"}, {v(-7), "v-7"}, {v(math.MaxInt), "v9223372036854775807"}, {v(math.MinInt), "v-9223372036854775808"},
	{w(0), "w0"}, {w(7), "w7"}, {w(-7), "w-7"}, {w(math.MaxInt), "w9223372036854775807"}, {w(math.MinInt), "w-9223372036854775808"},
	{api.Src{Kind: 3, N: 4}, "?"}, {api.Src{Kind: -1}, "?"}, {api.Src{Kind: 257, N: 1}, "?"}, {api.Src{Kind: math.MaxInt, Val: api.Value{N: 1}}, "?"},
	// Of each kind just its own field is told.
	{api.Src{Val: api.Value{N: 6}, N: 4}, "6"}, {api.Src{Kind: api.SrcVar, Val: api.Value{N: 6}, N: 4}, "v4"}, {api.Src{Kind: api.SrcVirt, Val: api.Value{Kind: api.Null}, N: 4}, "w4"},
}

func TestShowSources(t *testing.T) { // P16.2
	var all []api.Src
	line := ""
	for _, s := range sourceTexts {
		all = append(all, s.s)
		line += " " + s.want
		wantLine(t, api.Op{Op: api.OpYes, Args: []api.Src{s.s}, Snap: -1}, "yes "+s.want)
		wantText(t, api.Trace{Back: []api.Src{s.s}}, "trace 0 0 ", "back "+s.want)
		wantText(t, api.Trace{Links: []api.Link{{Regs: []api.Src{s.s}}}}, "trace 0 0 ", "back", "l0 up0 0:0 0 "+s.want)
		wantText(t, api.Trace{Virts: []api.Virt{{Cells: []api.Src{s.s}}}}, "trace 0 0 ", "back", "w0 r0 "+s.want)
	}
	wantText(t, api.Trace{Ops: []api.Op{{Op: api.OpLay, Args: all, Snap: -1}}, Links: []api.Link{{Regs: all}}, Virts: []api.Virt{{Cells: all}}, Back: all},
		"trace 0 0 ", "v0 = lay"+line, "back"+line, "l0 up0 0:0 0"+line, "w0 r0"+line)
}

func TestShowLinksAndVirts(t *testing.T) { // P16.2
	wantText(t, api.Trace{
		Links: []api.Link{{}, {Up: -1, Fn: 2, Pc: 3, Into: -4}, {Up: math.MaxInt, Fn: math.MinInt, Pc: math.MaxInt, Into: math.MinInt}},
		Virts: []api.Virt{{}, {Rec: -7}, {Rec: math.MinInt, Cells: []api.Src{w(5)}}},
	},
		"trace 0 0 ", "back",
		"l0 up0 0:0 0",
		"l1 up-1 2:3 -4",
		"l2 up9223372036854775807 -9223372036854775808:9223372036854775807 -9223372036854775808",
		"w0 r0", "w1 r-7", "w2 r-9223372036854775808 w5")
}

// TestShowMany: numbers of more than one digit, for all that is numbered.
func TestShowMany(t *testing.T) { // P16.2
	x := api.Trace{Ops: make([]api.Op, 12), Links: make([]api.Link, 12), Virts: make([]api.Virt, 12)}
	for n := range x.Ops {
		x.Ops[n] = plain()
	}
	got := strings.Split(Show(x), "\n")
	for at, want := range map[int]string{1: "v0 = in", 11: "v10 = in", 12: "v11 = in", 13: "back", 14: "l0 up0 0:0 0", 25: "l11 up0 0:0 0", 26: "w0 r0", 37: "w11 r0", 38: ""} {
		if got[at] != want {
			t.Error(at, got[at])
		}
	}
	if len(got) != 39 {
		t.Error(len(got))
	}
}

// TestShowVariables: it hangs on how many inputs there are, and on all operations ahead, also on those that make nothing.
func TestShowVariables(t *testing.T) { // P16.2
	for ins := range 4 {
		for ahead := range 4 {
			x := api.Trace{Ins: slices.Repeat([]int{1}, ins), Ops: slices.Repeat([]api.Op{{Op: api.InsStep, Snap: -1}}, ahead)}
			x.Ops = append(x.Ops, plain())
			if want := "v" + string(rune('0'+ins+ahead)) + " = in\nback\n"; !strings.HasSuffix(Show(x), want) {
				t.Error(Show(x), want)
			}
		}
	}
}
