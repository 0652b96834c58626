package sem

import (
	"fmt"
	"slices"
	"strings"
	"testing"

	"swath/api"
	"swath/check"
	"swath/heap"
	"swath/iso"
)

// sorts are records that tests use: P of two fields, Q of one, E of none.
const sorts = "rec P {x, y} rec Q {z} rec E {} "

// put is a function that puts out its first argument and answers its second, so that one sees when an expression is done.
const put = " fn put(n, v) { out n; return v; }"

// wide are limits that none of the small descriptions meets.
var wide = api.Limits{Fuel: 1000, Depth: 50, Cells: 1000}

var traps = []string{"", "div", "index", "null", "depth", "cells", "type"}

// nodes is the tree of a description that must be taken.
func nodes(t testing.TB, s string) []api.Node {
	t.Helper()
	l, _, at, e := check.Source(s)
	if e != api.OK {
		t.Fatal(s, at, e)
	}
	return l
}

// done does a description that must be taken.
func done(t testing.TB, s string, image, input []int64, lim api.Limits) (api.Result, *heap.Heap) {
	t.Helper()
	r, h, e := Run(nodes(t, s), image, input, lim)
	if e != api.OK || h == nil {
		t.Fatal(s, e, h)
	}
	wantRight(t, r, h)
	return r, h
}

// wantRight wants of a result what holds of all.
func wantRight(t testing.TB, r api.Result, h *heap.Heap) {
	t.Helper()
	ends := r.End == api.EndHalt && r.Trap == 0 ||
		r.End == api.EndTrap && r.Trap >= api.TrapDiv && r.Trap <= api.TrapType && r.Value == api.Value{} ||
		r.End == api.EndFuel && r.Trap == 0 && r.Value == api.Value{}
	if !ends || r.Cells != h.Used() || r.Steps < 0 || r.Read < 0 {
		t.Fatal("no such result may be:", r, h.Used())
	}
}

// told is a result as a text: how it ended; the value, and the root if that isn't the number 0; then what there is of out, read, steps, cells.
func told(r api.Result, h *heap.Heap) string {
	values := []api.Value{r.Value, h.Root()}
	if h.Root() == (api.Value{}) {
		values = values[:1]
	}
	how := "halt"
	switch r.End {
	case api.EndTrap:
		how = traps[r.Trap]
	case api.EndFuel:
		how = "fuel"
	}
	return tellWith(how, iso.Show(h, values), r)
}

func tellWith(how, values string, r api.Result) string {
	s := how + " " + values
	if len(r.Out) > 0 {
		s += " out " + strings.Trim(fmt.Sprint(r.Out), "[]")
	}
	for _, x := range []struct {
		name string
		n    int
	}{{"read", r.Read}, {"steps", r.Steps}, {"cells", r.Cells}} {
		if x.n != 0 {
			s += fmt.Sprint(" ", x.name, " ", x.n)
		}
	}
	return s
}

// want wants a description to come to a result.
func want(t *testing.T, s string, image, input []int64, lim api.Limits, result string) {
	t.Helper()
	r, h := done(t, s, image, input, lim)
	if got := told(r, h); got != result {
		t.Errorf("%s: %s; wanted %s", s, got, result)
	}
}

// example is a body of main and what it comes to; the image is 7 8 9, the input 20 21.
type example struct {
	body   string
	result string
}

func wantAll(t *testing.T, examples []example) {
	t.Helper()
	for _, x := range examples {
		want(t, sorts+"fn main() { "+x.body+" }"+put, []int64{7, 8, 9}, []int64{20, 21}, wide, x.result)
	}
}

func num(n int64) api.Value { return api.Value{N: n} }
func ref(n int64) api.Value { return api.Value{Kind: api.Ref, N: n} }

var null = api.Value{Kind: api.Null}

// sameResults tells whether two results are alike to the last number of their values.
func sameResults(a, b api.Result) bool {
	alike := slices.Equal(a.Out, b.Out)
	return alike && a.End == b.End && a.Value == b.Value && a.Trap == b.Trap && a.Read == b.Read && a.Steps == b.Steps && a.Cells == b.Cells
}
