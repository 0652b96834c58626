package sem

import (
	"math/rand"
	"strings"
	"testing"

	"swath/api"
	"swath/check"
)

// given is what a run is given beside the description.
type given struct {
	image, input []int64
	lim          api.Limits
}

func givenBy(chance *rand.Rand) given {
	numbers := func(most int) []int64 {
		l := make([]int64, chance.Intn(most))
		for i := range l {
			l[i] = int64(chance.Intn(6)) - 1
		}
		return l
	}
	return given{numbers(6), numbers(30), api.Limits{Fuel: 1 + chance.Intn(400), Depth: 1 + chance.Intn(25), Cells: chance.Intn(150)}}
}

// wantModel wants of a tree what the model says, and answers it.
func wantModel(t *testing.T, l []api.Node, g given) string {
	t.Helper()
	r, h, e := Run(l, g.image, g.input, g.lim)
	if e != api.OK {
		t.Fatal(e)
	}
	wantRight(t, r, h)
	got, said := told(r, h), modelOf(l).result(g.image, g.input, g.lim)
	if got != said {
		t.Fatalf("%s\nwanted %s\nof %v", got, said, g)
	}
	return said
}

// wantHintsApart wants the result to be the same without hints.
func wantHintsApart(t *testing.T, l []api.Node, g given) {
	t.Helper()
	bare, e := check.Bare(l)
	if e != api.OK {
		t.Fatal(e)
	}
	r, h, _ := Run(l, g.image, g.input, g.lim)
	q, k, e := Run(bare, g.image, g.input, g.lim)
	if e != api.OK || !Same(r, h, q, k) || told(r, h) != told(q, k) {
		t.Fatal(e, told(r, h), told(q, k))
	}
}

func TestByChance(t *testing.T) { // P9.1, P9.4
	chance := rand.New(rand.NewSource(93))
	ends := map[string]int{}
	kinds := make([]int, api.NodeRoot+1)
	for i := range 2500 {
		m := maker{Rand: chance, hints: i%4 > 0}
		s := m.program()
		l, _, at, e := check.Source(s)
		if e != api.OK {
			t.Fatal(s, at, e)
		}
		for _, n := range l {
			kinds[n.Kind]++
		}
		for range 3 {
			g := givenBy(chance)
			said := wantModel(t, l, g)
			how, _, _ := strings.Cut(said, " ")
			ends[how]++
			wantHintsApart(t, l, g)
			if strings.Contains(said, "out") && strings.Contains(said, "cells") && strings.Contains(said, "@") {
				ends["much"]++
			}
		}
	}
	for _, how := range append(traps[1:], "halt", "fuel", "much") {
		if ends[how] < 150 {
			t.Error(how, "came", ends[how], "times:", ends)
		}
	}
	for kind := api.NodeProgram; kind <= api.NodeRoot; kind++ {
		if kinds[kind] < 500 {
			t.Error("kind", kind, "came", kinds[kind], "times")
		}
	}
}

func TestStepsByChance(t *testing.T) { // P9.3
	chance := rand.New(rand.NewSource(94))
	for i := range 200 {
		m := maker{Rand: chance, hints: i%2 == 0}
		g := givenBy(chance)
		wantSteps(t, nodes(t, m.program()), g.image, g.input, g.lim, 100)
	}
}

// TestLimitsByChance has runs that differ in one limit alone: more calls, more cells change a result only if it was for want of them.
func TestLimitsByChance(t *testing.T) { // P9.1
	chance := rand.New(rand.NewSource(95))
	for range 1500 {
		m := maker{Rand: chance}
		l := nodes(t, m.program())
		g := givenBy(chance)
		r, h, _ := Run(l, g.image, g.input, g.lim)
		more := g.lim
		more.Depth += 5
		more.Cells += 50
		q, k, _ := Run(l, g.image, g.input, more)
		if r.Trap != api.TrapDepth && r.Trap != api.TrapCells && !Same(r, h, q, k) {
			t.Fatal(r, q)
		}
	}
}

func FuzzRun(f *testing.F) {
	for _, s := range []string{
		shared, "fn main() { return main() / 0; }", sorts + "fn main() { let p = new P; while p.x < 9 { merge(p); p.x = p.x + 1; out promote(p.x) << 3; } stop p; }",
		"fn main() { root = arr(in()); root[in()] = root; return len(root[img(0)]) == size(); }", "fn main() { if in() { return f(null, ~2); } else { f(1, !3); } } fn f(a, b) { return a != b; }",
	} {
		f.Add(s, []byte{1, 2, 3}, 50, 5, 20)
	}
	f.Fuzz(func(t *testing.T, s string, numbers []byte, fuel, depth, cells int) {
		l, _, _, e := check.Source(s)
		if e != api.OK {
			return
		}
		g := given{lim: api.Limits{Fuel: fuel % 10000, Depth: depth, Cells: cells % 10000}}
		for _, n := range numbers {
			g.image = append(g.image, int64(n)-1)
			g.input = append(g.input, int64(n)-1)
		}
		wantModel(t, l, g)
		wantHintsApart(t, l, g)
	})
}
