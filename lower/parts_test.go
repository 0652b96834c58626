package lower

import (
	"slices"
	"strings"
	"testing"

	"swath/api"
	"swath/check"
	"swath/ir"
	"swath/sem"
	"swath/tree"
)

// sorts are records that tests use: P of two fields, Q of one, E of none.
const sorts = "rec P {x, y} rec Q {z} rec E {} "

// put is a function that puts out its first argument and answers its second, so that one sees when an expression is done.
const put = " fn put(n, v) { out n; return v; }"

// wide is limits that none of the small descriptions meets, with the image 7 8 9 and the input 20 21.
var wide = given{[]int64{7, 8, 9}, []int64{20, 21}, api.Limits{Fuel: 2000, Depth: 50, Cells: 1000}}

// nodes is the tree of a description that must be taken.
func nodes(t testing.TB, s string) []api.Node {
	t.Helper()
	l, _, at, e := check.Source(s)
	if e != api.OK {
		t.Fatal(s, at, e)
	}
	return l
}

// made is the code of a tree that there must be, which is held against all that holds of every code.
func made(t testing.TB, l []api.Node) api.Code {
	t.Helper()
	c, at, e := Code(l)
	if at != 0 || e != api.OK {
		t.Fatal(at, e)
	}
	wantRight(t, l, c)
	return c
}

// codeOf is the code of a description that must be taken.
func codeOf(t testing.TB, s string) api.Code {
	t.Helper()
	return made(t, nodes(t, s))
}

// mainOf is the code of a main with that body.
func mainOf(t testing.TB, body string) api.Func {
	t.Helper()
	c := codeOf(t, sorts+"fn main() { "+body+" }"+put)
	return c.Funcs[c.Main]
}

// within are the numbers of a node and of all within it, each ahead of its kids.
func within(l []api.Node, n int) []int {
	all := []int{n}
	for _, k := range l[n].Kids {
		all = append(all, within(l, k)...)
	}
	return all
}

// wantRight wants of code what P11.1 and P11.2 say of each.
func wantRight(t testing.TB, l []api.Node, c api.Code) {
	t.Helper()
	if f, i, e := ir.Check(c); e != api.OK {
		t.Fatalf("function %d, instruction %d is wrong in\n%.3000s", f, i, ir.Show(c.Funcs[f]))
	}
	d, _, _ := check.Program(l)
	if len(c.Funcs) != len(d.Fns) || c.Main != d.Main || c.Merges != len(d.Merges) {
		t.Fatal(len(c.Funcs), c.Main, c.Merges, "of", d)
	}
	merges := 0
	for n, f := range c.Funcs {
		if f.Name != d.Fns[n].Name || f.Params != d.Fns[n].Params {
			t.Fatal(f.Name, f.Params, "of", d.Fns[n])
		}
		merges = wantFunction(t, l, d.Fns[n], f, merges)
	}
	if merges != c.Merges {
		t.Fatal(merges, "merges of", c.Merges)
	}
}

// statementKinds are those that take a step.
var statementKinds = []int{api.NodeLet, api.NodeSet, api.NodeIf, api.NodeWhile, api.NodeReturn, api.NodeOut, api.NodeStop, api.NodeDo}

// wantFunction wants a function's code to be short, with as many steps as statements, with merges from that number on and as many
// greens as they have, each ahead of a step or of the way back; it answers the number of the next merge.
func wantFunction(t testing.TB, l []api.Node, d api.Fn, f api.Func, merges int) int {
	t.Helper()
	var greens []int
	var alone []bool
	statements := 0
	all := within(l, d.Node)
	for _, n := range all {
		node := l[n]
		if slices.Contains(statementKinds, node.Kind) {
			statements++
		}
		if node.Kind == api.NodeBlock && len(node.Kids) > 0 && l[node.Kids[0]].Kind == api.NodeMerge {
			greens = append(greens, len(l[node.Kids[0]].Kids))
			alone = append(alone, len(node.Kids) == 1)
		}
	}
	if len(f.Code) > 5*len(all)+10 {
		t.Fatal(len(f.Code), "instructions of", len(all), "nodes")
	}
	steps, here := 0, 0
	for n, i := range f.Code {
		switch i.Op {
		case api.InsStep:
			steps++
		case api.InsMerge:
			next := f.Code[n+1].Op
			if here == len(greens) || i.K != int64(merges) || len(i.L) != greens[here] || (next == api.InsStep) == alone[here] {
				t.Fatalf("merge %d, not %d, in\n%.3000s", n, merges, ir.Show(f))
			}
			merges++
			here++
		}
	}
	if steps != statements || here != len(greens) {
		t.Fatalf("%d steps of %d, %d merges of %d in\n%.3000s", steps, statements, here, len(greens), ir.Show(f))
	}
	return merges
}

// wantSame wants code to come to what sem.Run says of its tree, and answers it.
func wantSame(t testing.TB, l []api.Node, c api.Code, g given) api.Result {
	t.Helper()
	r, h, e := sem.Run(l, g.image, g.input, g.lim)
	if e != api.OK {
		t.Fatal(e)
	}
	m := machineOf(c, g)
	watch(t, m)
	got, k := m.run()
	if !sem.Same(got, k, r, h) {
		t.Fatalf("%v; wanted %v with %v of\n%.3000s", got, r, g, shown(c))
	}
	return r
}

// watch has a machine want of each call of a function named seen that it has as arguments the number and the greens of the merge that was met last.
func watch(t testing.TB, m *machine) {
	var last []api.Value
	m.met = func(merge int64, greens []api.Value) { last = append([]api.Value{num(merge)}, greens...) }
	m.called = func(name string, arguments []api.Value) {
		if strings.HasPrefix(name, "seen") && !slices.Equal(arguments, last) {
			t.Fatalf("merge %v; wanted %v in\n%.3000s", last, arguments, shown(m.code))
		}
	}
}

func shown(c api.Code) string {
	var parts []string
	for _, f := range c.Funcs {
		parts = append(parts, ir.Show(f))
	}
	return strings.Join(parts, "")
}

// wantSteps wants a description with ever fewer steps to come to what sem.Run says, from as many as it takes, or as there are, on.
func wantSteps(t testing.TB, s string, g given) {
	t.Helper()
	l := nodes(t, s)
	c := made(t, l)
	r := wantSame(t, l, c, g)
	for fuel := min(r.Steps, 300); fuel >= -1; fuel-- {
		g.lim.Fuel = fuel
		wantSame(t, l, c, g)
	}
}

// wantBodies wants what wantSteps does of bodies of main, beside the sorts and put.
func wantBodies(t *testing.T, bodies ...string) {
	t.Helper()
	for _, body := range bodies {
		wantSteps(t, sorts+"fn main() { "+body+" }"+put, wide)
	}
}

// count is how many instructions of a kind a function has.
func count(f api.Func, op int) int {
	n := 0
	for _, i := range f.Code {
		if i.Op == op {
			n++
		}
	}
	return n
}

// copied is a list that shares nothing with l, with room behind it and its kids.
func copied(l []api.Node) []api.Node {
	all := make([]api.Node, len(l), len(l)+3)
	for i, n := range l {
		all[i] = n
		all[i].Kids = append(make([]int, 0, len(n.Kids)+2), n.Kids...)
	}
	return all
}

func sameNodes(a, b []api.Node) bool {
	return tree.Same(a, b) && slices.EqualFunc(a, b, func(x, y api.Node) bool { return x.At == y.At })
}

func isNone(c api.Code) bool { return len(c.Funcs) == 0 && c.Main == 0 && c.Merges == 0 }
