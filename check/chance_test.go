package check

import (
	"math/rand"
	"testing"

	"swath/api"
	"swath/tree"
)

// rules are those that may be broken, as the model calls them.
var rules = []string{"how many records", "how many functions", "records alike", "how many fields", "fields alike", "functions alike", "main", "how many variables", "parameters alike",
	"let", "name", "green name", "call", "arguments", "field", "new", "where a merge stands", "how many green names", "green names alike"}

// wantModel wants of a tree what the model says, and answers which rule is broken first.
func wantModel(t *testing.T, l []api.Node) string {
	t.Helper()
	m := modelOf(l)
	want := m.first()
	d, at, e := Program(l)
	if at != want.at || e != want.e {
		t.Fatalf("%d, %d; wanted %v of %v", at, e, want, l)
	}
	if e == api.OK && !sameDescs(d, m.desc()) || e != api.OK && !noDesc(d) {
		t.Fatalf("%v; wanted %v", d, m.desc())
	}
	bare, e := Bare(l)
	if e != api.OK || !sameNodes(bare, m.bare()) {
		t.Fatalf("%v, %d; wanted %v", bare, e, m.bare())
	}
	return want.rule
}

// wantHintsApart wants what is taken to be taken without hints, as the same but for its nodes and merges, and what is bare to stay so.
func wantHintsApart(t *testing.T, l []api.Node) {
	t.Helper()
	bare, e := Bare(l)
	if _, checked := tree.Check(bare); e != api.OK || checked != api.OK {
		t.Fatal(e, checked, bare)
	}
	for _, n := range bare {
		if n.Kind == api.NodeMerge || n.Kind == api.NodePromote {
			t.Fatal("there is still a hint:", bare)
		}
	}
	if again, e := Bare(bare); e != api.OK || !sameNodes(again, bare) {
		t.Fatalf("%v, %d is bare of %v", again, e, bare)
	}
	d, _, e := Program(l)
	if e != api.OK {
		return
	}
	other, at, e := Program(bare)
	if at != 0 || e != api.OK || !sameSorts(d.Sorts, other.Sorts) || !sameFunctions(d.Fns, other.Fns) || d.Main != other.Main || len(other.Merges) > 0 {
		t.Fatalf("%v, %d, %d without hints; with them %v", other, at, e, d)
	}
	for i, f := range d.Fns {
		if n := other.Fns[i].Node; bare[n].At != l[f.Node].At {
			t.Fatal(bare[n], l[f.Node])
		}
	}
}

func TestByChance(t *testing.T) { // P8.1, P8.3, P8.5
	chance := rand.New(rand.NewSource(82))
	times := map[string]int{}
	kinds := make([]int, api.NodeRoot+1)
	for i := range 12000 {
		m := maker{Rand: chance}
		p := m.program()
		for range i % 4 {
			spoil(chance, p)
		}
		l := list(p)
		if i%3 == 0 {
			l = scattered(chance, l)
		}
		rule := wantModel(t, l)
		if i%4 == 0 && rule != "" {
			t.Fatal(rule, "is broken in one that isn't spoiled:", l)
		}
		times[rule]++
		wantHintsApart(t, l)
		for _, n := range l {
			kinds[n.Kind]++
		}
	}
	for _, rule := range append(rules, "") {
		if times[rule] < 15 {
			t.Errorf("%q came %d times", rule, times[rule])
		}
	}
	for kind := api.NodeProgram; kind <= api.NodeRoot; kind++ {
		if kinds[kind] < 1000 {
			t.Error("kind", kind, "came", kinds[kind], "times")
		}
	}
}
