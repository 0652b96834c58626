package snap

import (
	"fmt"
	"math"
	"slices"
	"testing"

	"swath/api"
	"swath/heap"
)

func c(n int64) api.Src           { return con(api.Value{N: n}) }
func con(x api.Value) api.Src     { return api.Src{Kind: api.SrcConst, Val: x} }
func v(n int) api.Src             { return api.Src{Kind: api.SrcVar, N: n} }
func w(n int) api.Src             { return api.Src{Kind: api.SrcVirt, N: n} }
func num(n int64) api.Value       { return api.Value{N: n} }
func ref(n int64) api.Value       { return api.Value{Kind: api.Ref, N: n} }
func list(l ...api.Src) []api.Src { return l }

var null = api.Value{Kind: api.Null}

// link is a frame of function fn with something in each other field, too, so that all are told from one another.
func link(up, fn int, regs ...api.Src) api.Link {
	return api.Link{Up: up, Fn: fn, Pc: fn + 100, Into: fn + 200, Regs: regs}
}

// plain is a frame with registers alone.
func plain(up int, regs ...api.Src) api.Link { return api.Link{Up: up, Regs: regs} }

func virt(rec int, cells ...api.Src) api.Virt { return api.Virt{Rec: rec, Cells: cells} }

// edges are numbers at the bounds of several kinds of them.
var edges = []int{0, 1, -1, 2, 3, -2, 63, 64, 127, 128, -64, -65, 255, 256, 16383, 16384, math.MaxInt32, math.MinInt32, 1 << 32, 1<<40 - 1, 1 << 40, 1<<40 + 1, 1 << 41, math.MaxInt - 1, math.MaxInt, math.MinInt, math.MinInt + 1}

// noKinds are kinds of sources that there aren't.
var noKinds = []int{3, 4, -1, -2, 256, 257, 1 << 32, 1<<32 + 1, 1 << 40, 1<<40 + 1, math.MaxInt, math.MinInt}

// values are constants of all kinds, also such as no heap has.
var values = []api.Value{num(0), num(7), num(-1), num(math.MinInt64), num(math.MaxInt64), null, {Kind: api.Null, N: 3}, ref(0), ref(1), ref(99), ref(-5), {Kind: 3}, {Kind: 3, N: 1}, {Kind: -1, N: 9}, {Kind: math.MaxInt}, {Kind: math.MinInt, N: -1}}

// text is a thing as a text: no two that differ by more than a nil list instead of an empty one have the same.
func text(x any) string { return fmt.Sprintf("%+v", x) }

func wantText(t testing.TB, what string, got, want any) {
	t.Helper()
	if text(got) != text(want) {
		t.Errorf("%s: %.500s instead of %.500s", what, text(got), text(want))
	}
}

// copiedLinks, copiedVirts and copiedTrace are in memory of their own.
func copiedLinks(l []api.Link) []api.Link {
	l = slices.Clone(l)
	for n := range l {
		l[n].Regs = slices.Clone(l[n].Regs)
	}
	return l
}

func copiedVirts(l []api.Virt) []api.Virt {
	l = slices.Clone(l)
	for n := range l {
		l[n].Cells = slices.Clone(l[n].Cells)
	}
	return l
}

func copiedTrace(t api.Trace) api.Trace {
	t.Links, t.Virts = copiedLinks(t.Links), copiedVirts(t.Virts)
	return t
}

// heapWith is a heap with so many things already.
func heapWith(things int) *heap.Heap {
	h := heap.New(50)
	for n := range things {
		h.Lay(n, []api.Value{num(int64(n))})
	}
	return h
}

// thingsOf are all things of a heap.
func thingsOf(h *heap.Heap) []api.Obj {
	var l []api.Obj
	for o, is := h.Obj(ref(0)); is; o, is = h.Obj(ref(int64(len(l)))) {
		l = append(l, o)
	}
	return l
}

// short is the beginning of bytes, for remarks.
func short(b []byte) []byte { return b[:min(len(b), 100)] }
