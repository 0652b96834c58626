package live

import (
	"math"
	"math/rand"
	"slices"
	"testing"

	"swath/api"
)

// chancer makes functions by chance.
type chancer struct{ *rand.Rand }

// ins is an instruction for a function of so many registers and instructions; now and then a number of it is none that there is.
func (m chancer) ins(regs, length int) api.Ins {
	register := func() int { return m.Intn(regs+2) - 1 }
	i := api.Ins{Op: m.Intn(ops + 2), A: register(), B: register(), C: register(), K: int64(m.Intn(length+2)) - 1}
	if m.Intn(4) == 0 {
		i.Op = []int{api.InsJump, api.InsZero}[m.Intn(2)]
	}
	for range m.Intn(4) {
		i.L = append(i.L, register())
	}
	return i
}

// function is one with jumps to and fro.
func (m chancer) function(regs, longest int) api.Func {
	f := api.Func{Name: "f", Regs: regs, Code: make([]api.Ins, 1+m.Intn(longest))}
	for at := range f.Code {
		f.Code[at] = m.ins(regs, len(f.Code))
	}
	return f
}

func TestByChance(t *testing.T) { // P12.1, P12.2
	m := chancer{rand.New(rand.NewSource(121))}
	live, dead, written, sets := 0, 0, 0, 0
	for n := range 10000 {
		f := m.function(1+m.Intn(9), 4+n%25)
		tables, l := wantReckoned(t, f)
		dead += len(l)
		for at, i := range f.Code {
			written += len(column(i, 1))
			live += len(tables[at])
			sets++
		}
		if t.Failed() {
			t.FailNow()
		}
	}
	// The code is such that of all there is much: else nothing is held against anything.
	if live < sets || dead < written/10 || dead > written*9/10 {
		t.Error(live, sets, dead, written)
	}
}

// TestManyRegistersByChance has registers of all words of a set.
func TestManyRegistersByChance(t *testing.T) { // P12.1, P12.2
	m := chancer{rand.New(rand.NewSource(122))}
	for range 1500 {
		f := m.function(1+m.Intn(1030), 30)
		// As many again of a few registers, so that what is read is written, too.
		few := []int{m.Intn(f.Regs), m.Intn(f.Regs), 64 * m.Intn(16), 64*m.Intn(16) + 63}
		for at := range f.Code {
			if m.Intn(2) == 0 {
				f.Code[at].A, f.Code[at].B, f.Code[at].C = few[m.Intn(4)], few[m.Intn(4)], few[m.Intn(4)]
			}
		}
		wantReckoned(t, f)
		f.Regs = sizes[m.Intn(len(sizes))]
		wantReckoned(t, f)
	}
}

// TestRegsByChance: with one register less nothing but that register goes, and who writes it.
func TestRegsByChance(t *testing.T) { // P12.1, P12.2
	m := chancer{rand.New(rand.NewSource(123))}
	for range 2000 {
		f := m.function(1+m.Intn(9), 20)
		whole, dead := Tables(f), Dead(f)
		f.Regs--
		dead = slices.DeleteFunc(dead, func(at int) bool { return f.Code[at].A == f.Regs })
		if l := Dead(f); !slices.Equal(l, dead) {
			t.Fatal(l, dead, f)
		}
		for at, l := range Tables(f) {
			want := slices.DeleteFunc(slices.Clone(whole[at]), func(n int) bool { return n == f.Regs })
			if !slices.Equal(l, want) {
				t.Fatal(l, want, f)
			}
		}
	}
}

// number is one that is near a bound, or far from all.
func (m chancer) number() int {
	switch m.Intn(4) {
	case 0:
		return int(m.Uint64())
	case 1:
		return numbers[m.Intn(len(numbers))]
	case 2:
		return sizes[m.Intn(len(sizes))]
	}
	return m.Intn(31) - 1
}

func TestAnyNumbersAtAll(t *testing.T) { // P12.1, P12.2, P1
	m := chancer{rand.New(rand.NewSource(124))}
	for range 30000 {
		f := api.Func{Name: string(rune(m.Intn(300))), Params: m.number(), Regs: m.number(), Code: make([]api.Ins, m.Intn(7))}
		for at := range f.Code {
			f.Code[at] = api.Ins{Op: m.number(), A: m.number(), B: m.number(), C: m.number(), K: int64(m.number()), L: make([]int, m.Intn(4))}
			for k := range f.Code[at].L {
				f.Code[at].L[k] = m.number()
			}
		}
		wantReckoned(t, f)
	}
}

// TestNothingIsChanged has room behind all lists, with what would count if it were read.
func TestNothingIsChanged(t *testing.T) { // P2
	m := chancer{rand.New(rand.NewSource(125))}
	for range 1000 {
		f := m.function(1+m.Intn(9), 12)
		g := copied(f)
		for at := range g.Code {
			g.Code[at].L = append(g.Code[at].L, 0)[:len(g.Code[at].L)]
		}
		g.Code = append(g.Code, merge(0, 0, 1, 2, 3))[:len(f.Code)]
		if !sameLists(Tables(g), Tables(f)) || !slices.Equal(Dead(g), Dead(f)) {
			t.Fatal("what lies behind counts in", f)
		}
		if !alike(f, g) || g.Code[:len(f.Code)+1][len(f.Code)].Op != api.InsMerge {
			t.Fatal(f, "has become", g)
		}
		for _, i := range g.Code {
			if i.L[:len(i.L)+1][len(i.L)] != 0 {
				t.Fatal("what lies behind a list has changed")
			}
		}
	}
}

// TestNewMemory writes all over what is answered, and behind it.
func TestNewMemory(t *testing.T) { // P2
	m := chancer{rand.New(rand.NewSource(126))}
	for range 1000 {
		f := m.function(1+m.Intn(9), 12)
		before := copied(f)
		live, dead := Tables(f), Dead(f)
		first := Tables(f)
		for at := range first {
			for n := range first[at][:cap(first[at])] {
				first[at][:cap(first[at])][n] = -77
			}
			for other := at + 1; other < len(first); other++ {
				if !slices.Equal(first[other], live[other]) {
					t.Fatal("two lists of an answer share memory:", f)
				}
			}
		}
		doomed := Dead(f)
		for n := range doomed[:cap(doomed)] {
			doomed[:cap(doomed)][n] = -77
		}
		clear(first[:cap(first)])
		if !alike(f, before) || !sameLists(Tables(f), live) || !slices.Equal(Dead(f), dead) {
			t.Fatal("an answer shares memory:", f)
		}
		// Nor does what was answered change with the argument.
		for at := range f.Code {
			clear(f.Code[at].L)
		}
		clear(f.Code)
		if !sameLists(live, reckon(before)) || !slices.Equal(dead, unwanted(before, live)) {
			t.Fatal("an answer changes with the argument:", before)
		}
	}
}

// TestNilAndEmpty: lists that are nil are as those that are empty.
func TestNilAndEmpty(t *testing.T) { // P3
	for op := -1; op <= ops+1; op++ {
		f, g := of(3, api.Ins{Op: op, A: 1, B: 2}, ret(0)), of(3, api.Ins{Op: op, A: 1, B: 2, L: []int{}}, ret(0))
		if !sameLists(Tables(f), Tables(g)) || !slices.Equal(Dead(f), Dead(g)) {
			t.Error(op)
		}
	}
}

func FuzzLive(f *testing.F) {
	f.Add(3, []byte{1, 0, 0, 0, 7, 22, 0, 0, 0, 3, 4, 1, 0, 1, 1, 21, 0, 0, 0, 1, 24, 1, 0, 0, 0})
	f.Add(1001, []byte{23, 250, 255, 3, 9, 27, 1, 2, 3, 4})
	f.Add(math.MinInt, []byte{28, 0, 0, 0, 0})
	f.Fuzz(func(t *testing.T, regs int, bytes []byte) {
		g := api.Func{Regs: regs}
		for ; len(bytes) >= 5 && len(g.Code) < 40; bytes = bytes[5:] {
			n := func(at int) int { return int(int8(bytes[at])) }
			g.Code = append(g.Code, api.Ins{Op: n(0), A: n(1), B: n(2), C: n(3), K: int64(n(4)), L: []int{n(2), 10 * n(3), n(4)}})
		}
		wantReckoned(t, g)
	})
}
