package lower

import (
	"math/rand"
	"testing"

	"swath/api"
	"swath/check"
	"swath/sem"
)

func givenBy(chance *rand.Rand) given {
	numbers := func(most int) []int64 {
		l := make([]int64, chance.Intn(most))
		for i := range l {
			l[i] = int64(chance.Intn(6)) - 1
		}
		return l
	}
	return given{numbers(6), numbers(30), api.Limits{Fuel: 1 + chance.Intn(400), Depth: 1 + chance.Intn(25), Cells: chance.Intn(150)}}
}

func TestByChance(t *testing.T) { // P11.1, P11.2, P11.3
	chance := rand.New(rand.NewSource(114))
	ends := map[[2]int]int{}
	kinds := make([]int, api.NodeRoot+1)
	ops := make([]int, api.InsPromote+1)
	merges := 0
	for i := range 3000 {
		w := writer{Rand: chance, hints: i%4 > 0}
		l := nodes(t, w.program())
		c := made(t, l)
		for _, n := range l {
			kinds[n.Kind]++
		}
		for _, f := range c.Funcs {
			for _, i := range f.Code {
				ops[i.Op]++
			}
		}
		merges = max(merges, c.Merges)
		for range 4 {
			r := wantSame(t, l, c, givenBy(chance))
			ends[[2]int{r.End, r.Trap}]++
		}
	}
	for trap := range api.TrapType + 1 {
		if end := [2]int{min(trap, api.EndTrap), trap}; ends[end] < 150 {
			t.Error("end and trap", end, "came", ends[end], "times")
		}
	}
	if ends[[2]int{api.EndFuel, 0}] < 150 || merges < 5 {
		t.Error(ends, merges)
	}
	for kind := api.NodeProgram; kind <= api.NodeRoot; kind++ {
		if kinds[kind] < 500 {
			t.Error("kind", kind, "came", kinds[kind], "times")
		}
	}
	for op := api.InsNum; op <= api.InsPromote; op++ {
		if ops[op] < 500 {
			t.Error("instruction", op, "came", ops[op], "times")
		}
	}
}

func TestStepsByChance(t *testing.T) { // P11.3
	chance := rand.New(rand.NewSource(115))
	for i := range 150 {
		w := writer{Rand: chance, hints: i%2 == 0}
		l := nodes(t, w.program())
		c := made(t, l)
		g := givenBy(chance)
		for fuel := range 120 {
			g.lim.Fuel = fuel
			wantSame(t, l, c, g)
		}
	}
}

// TestHintsApart has descriptions without their hints: their code, too, comes to what the whole means.
func TestHintsApart(t *testing.T) { // P11.3
	chance := rand.New(rand.NewSource(116))
	for range 500 {
		w := writer{Rand: chance, hints: true}
		l := nodes(t, w.program())
		bare, e := check.Bare(l)
		if e != api.OK {
			t.Fatal(e)
		}
		c := made(t, bare)
		if c.Merges != 0 {
			t.Fatal(c.Merges)
		}
		g := givenBy(chance)
		r, h, _ := sem.Run(l, g.image, g.input, g.lim)
		if got, k := machineOf(c, g).run(); !sem.Same(got, k, r, h) {
			t.Fatal(got, r)
		}
	}
}

func FuzzCode(f *testing.F) {
	for _, s := range []string{
		sample, "fn main() { return main() / 0; }", sorts + "fn main() { let p = new P; while p.x < 9 { merge(p); p.x = p.x + 1; out promote(p.x) << 3; } stop p; }",
		"fn main() { root = arr(in()); root[in()] = root; return len(root[img(0)]) == size(); }", "fn main() { if in() { return f(null, ~2); } else { f(1, !3); } } fn f(a, b) { return a != b; }",
	} {
		f.Add(s, []byte{1, 2, 3}, 50, 5, 20)
	}
	f.Fuzz(func(t *testing.T, s string, numbers []byte, fuel, depth, cells int) {
		l, _, _, e := check.Source(s)
		if e != api.OK {
			return
		}
		g := given{lim: api.Limits{Fuel: fuel % 10000, Depth: depth, Cells: cells % 10000}}
		for _, n := range numbers {
			g.image = append(g.image, int64(n)-1)
			g.input = append(g.input, int64(n)-1)
		}
		if c, at, e := Code(l); e == api.ErrLong {
			if !isNone(c) || at != 0 || len(l) < 800 {
				t.Fatal(c, at, len(l))
			}
			return
		}
		wantSame(t, l, made(t, l), g)
	})
}
