package ir

import (
	"math"
	"testing"

	"swath/api"
)

// wantSame wants of two codes, both ways round, whether they are alike.
func wantSame(t *testing.T, a, b api.Code, same bool) {
	t.Helper()
	if Same(a, b) != same || Same(b, a) != same {
		t.Errorf("%v and %v: wanted %v", a, b, same)
	}
	if !Same(a, a) || !Same(b, b) {
		t.Error("not alike with itself:", a, b)
	}
}

// full is code with something in every field of every instruction.
func full() api.Code {
	ins := func(n int) api.Ins {
		return api.Ins{Op: n, A: n + 1, B: n + 2, C: n + 3, K: int64(n) + 4, L: []int{n, n + 5}}
	}
	return api.Code{
		Funcs: []api.Func{
			{Name: "f", Params: 1, Regs: 2, Code: []api.Ins{ins(1), ins(2), ins(3)}},
			{Name: "g", Params: 3, Regs: 4, Code: []api.Ins{ins(4), ins(-5)}},
			{Name: "g", Params: 3, Regs: 4},
		},
		Main:   1,
		Merges: 6,
	}
}

func TestSameButForOneThing(t *testing.T) { // P10.5
	wantSame(t, full(), full(), true)
	for f := range 2 {
		for i := range 2 {
			for name, change := range map[string]func(f *api.Func, i *api.Ins){
				"name":         func(f *api.Func, i *api.Ins) { f.Name += "x" },
				"no name":      func(f *api.Func, i *api.Ins) { f.Name = "" },
				"params":       func(f *api.Func, i *api.Ins) { f.Params++ },
				"regs":         func(f *api.Func, i *api.Ins) { f.Regs-- },
				"op":           func(f *api.Func, i *api.Ins) { i.Op++ },
				"a":            func(f *api.Func, i *api.Ins) { i.A-- },
				"b":            func(f *api.Func, i *api.Ins) { i.B = 0 },
				"c":            func(f *api.Func, i *api.Ins) { i.C = -i.C },
				"k":            func(f *api.Func, i *api.Ins) { i.K += 1 << 32 },
				"list":         func(f *api.Func, i *api.Ins) { i.L[1]++ },
				"order":        func(f *api.Func, i *api.Ins) { i.L[0], i.L[1] = i.L[1], i.L[0] },
				"shorter":      func(f *api.Func, i *api.Ins) { i.L = i.L[:1] },
				"longer":       func(f *api.Func, i *api.Ins) { i.L = append(i.L, 0) },
				"no list":      func(f *api.Func, i *api.Ins) { i.L = nil },
				"empty":        func(f *api.Func, i *api.Ins) { *i = api.Ins{} },
				"less code":    func(f *api.Func, i *api.Ins) { f.Code = f.Code[:len(f.Code)-1] },
				"more code":    func(f *api.Func, i *api.Ins) { f.Code = append(f.Code, api.Ins{}) },
				"no code":      func(f *api.Func, i *api.Ins) { f.Code = nil },
				"another one":  func(f *api.Func, i *api.Ins) { f.Code[0], f.Code[1] = f.Code[1], f.Code[0] },
				"greatest":     func(f *api.Func, i *api.Ins) { i.K = math.MaxInt64 },
				"all is empty": func(f *api.Func, i *api.Ins) { *f = api.Func{} },
			} {
				c := full()
				change(&c.Funcs[f], &c.Funcs[f].Code[i])
				if Same(c, full()) || Same(full(), c) {
					t.Error(name, "counts for nothing")
				}
				wantSame(t, c, copied(c), true)
			}
		}
	}
}

func TestSameOfCodes(t *testing.T) { // P10.5
	for name, change := range map[string]func(c *api.Code){
		"main":           func(c *api.Code) { c.Main = 0 },
		"merges":         func(c *api.Code) { c.Merges = -6 },
		"less functions": func(c *api.Code) { c.Funcs = c.Funcs[:2] },
		"more functions": func(c *api.Code) { c.Funcs = append(c.Funcs, api.Func{}) },
		"no functions":   func(c *api.Code) { c.Funcs = nil },
		"order":          func(c *api.Code) { c.Funcs[0], c.Funcs[1] = c.Funcs[1], c.Funcs[0] },
	} {
		c := full()
		change(&c)
		if Same(c, full()) || Same(full(), c) {
			t.Error(name, "counts for nothing")
		}
	}
}

func TestSameOfNilAndEmpty(t *testing.T) { // P10.5, P3
	wantSame(t, api.Code{}, api.Code{Funcs: []api.Func{}}, true)
	wantSame(t, api.Code{}, api.Code{Funcs: full().Funcs[:0]}, true)
	wantSame(t, api.Code{}, api.Code{Funcs: []api.Func{{}}}, false)
	of := func(code []api.Ins) api.Code { return api.Code{Funcs: []api.Func{{Code: code}}} }
	wantSame(t, of(nil), of([]api.Ins{}), true)
	wantSame(t, of(nil), of([]api.Ins{{}}), false)
	wantSame(t, of([]api.Ins{{}}), of([]api.Ins{{L: []int{}}}), true)
	wantSame(t, of([]api.Ins{{}}), of([]api.Ins{{L: []int{1, 2}[:0]}}), true)
	wantSame(t, of([]api.Ins{{}}), of([]api.Ins{{L: []int{0}}}), false)
	// What lies behind the lengths doesn't count.
	wantSame(t, of([]api.Ins{{L: []int{1, 2}[:1]}, {Op: 1}}[:1]), of([]api.Ins{{L: []int{1, 3}[:1]}, {Op: 2}}[:1]), true)
}
