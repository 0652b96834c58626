package live

import (
	"slices"
	"testing"

	"swath/api"
)

// none of the registers, in the tables by hand.
var no []int

func TestChapterExample(t *testing.T) { // P12.1, P12.2
	wantLive(t, of(2, num(0), num(1), ret(0)), [][]int{no, {0}, {0}}, 1)
}

func TestNoInstruction(t *testing.T) { // P12.1, P12.2
	for _, regs := range []int{-1, 0, 1, 1000} {
		wantLive(t, of(regs), nil)
		wantLive(t, api.Func{Regs: regs, Params: 3, Code: []api.Ins{}}, nil)
		// What lies behind the length is no instruction.
		wantLive(t, api.Func{Regs: regs, Code: []api.Ins{ret(0), num(0)}[:0]}, nil)
	}
	wantLive(t, api.Func{}, nil)
}

// TestInstructionsAlone has each instruction alone, ahead of one that reads nothing and of one that reads all.
func TestInstructionsAlone(t *testing.T) { // P12.1, P12.2
	all := []int{0, 1, 2, 3}
	for op := 1; op <= ops; op++ {
		for n := range 256 {
			i := api.Ins{Op: op, A: n % 4, B: n / 4 % 4, C: n / 16 % 4, K: 1, L: []int{n / 64, n % 4}[:n%3]}
			wantReckoned(t, of(4, i))
			for _, next := range []api.Ins{step, {Op: api.InsMerge, L: all}} {
				live, dead := wantReckoned(t, of(4, i, next))
				wantAlone(t, i, len(next.L) > 0, live[0], dead)
			}
		}
	}
	for _, op := range oddOps {
		i := api.Ins{Op: op, A: 1, B: 2, C: 3, K: 0, L: []int{1, 2}}
		wantLive(t, of(4, i), [][]int{no})
		wantLive(t, of(4, i, merge(0, 0, 1, 2, 3)), [][]int{all, all})
		wantLive(t, of(4, i, step), [][]int{no, no})
	}
}

// wantAlone wants what the table says of an instruction behind which all four registers are wanted, or none.
func wantAlone(t *testing.T, i api.Ins, wanted bool, live, dead []int) {
	t.Helper()
	goesOn := i.Op != api.InsRet && i.Op != api.InsStop
	for n := range 4 {
		read, written := slices.Contains(column(i, 0), n), slices.Contains(column(i, 1), n)
		if slices.Contains(live, n) != (read || wanted && goesOn && !written) {
			t.Errorf("register %d of %v: %v", n, i, live)
		}
	}
	if slices.Contains(dead, 0) != (len(column(i, 1)) > 0 && !wanted) {
		t.Errorf("%v: %v", i, dead)
	}
}

// TestInstructionsByHand has some of all kinds apart from the table, ahead of one that reads 1, 2, 3 and 4.
func TestInstructionsByHand(t *testing.T) { // P12.1
	for _, want := range []struct {
		op   int
		live []int
	}{
		{api.InsNum, []int{2, 3, 4}}, {api.InsNull, []int{2, 3, 4}}, {api.InsMove, []int{2, 3, 4, 5}}, {api.InsBin, []int{2, 3, 4, 5, 6}}, {api.InsUn, []int{2, 3, 4, 5}},
		{api.InsEq, []int{2, 3, 4, 5, 6}}, {api.InsNe, []int{2, 3, 4, 5, 6}}, {api.InsGet, []int{2, 3, 4, 5}}, {api.InsPut, []int{1, 2, 3, 4, 5}}, {api.InsElem, []int{2, 3, 4, 5, 6}},
		{api.InsSetElem, []int{1, 2, 3, 4, 5, 6}}, {api.InsLen, []int{2, 3, 4, 5}}, {api.InsNew, []int{2, 3, 4}}, {api.InsArr, []int{2, 3, 4, 5}}, {api.InsIn, []int{2, 3, 4}},
		{api.InsOut, []int{1, 2, 3, 4}}, {api.InsImg, []int{2, 3, 4, 5}}, {api.InsSize, []int{2, 3, 4}}, {api.InsRoot, []int{2, 3, 4}}, {api.InsSetRoot, []int{1, 2, 3, 4}},
		{api.InsJump, []int{1, 2, 3, 4}}, {api.InsZero, []int{1, 2, 3, 4}}, {api.InsCall, []int{0, 2, 3, 4, 7}}, {api.InsRet, []int{1}}, {api.InsStop, []int{1}},
		{api.InsStep, []int{1, 2, 3, 4}}, {api.InsMerge, []int{0, 1, 2, 3, 4, 7}}, {api.InsPromote, []int{2, 3, 4, 5}}, {29, []int{1, 2, 3, 4}},
	} {
		wantLive(t, of(8, api.Ins{Op: want.op, A: 1, B: 5, C: 6, K: 1, L: []int{7, 0}}, merge(0, 4, 2, 3, 1)), [][]int{want.live, {1, 2, 3, 4}})
	}
}

// TestReadAndWritten: the register that an instruction writes is live ahead of it, if it reads it, too, whoever wants it behind.
func TestReadAndWritten(t *testing.T) { // P12.1, P12.2
	wantLive(t, of(3, add(0, 0, 1), ret(0)), [][]int{{0, 1}, {0}})
	wantLive(t, of(3, add(0, 1, 0), ret(0)), [][]int{{0, 1}, {0}})
	wantLive(t, of(3, add(0, 0, 0), ret(0)), [][]int{{0}, {0}})
	wantLive(t, of(3, add(0, 0, 0), ret(2)), [][]int{{0, 2}, {2}}, 0)
	wantLive(t, of(3, move(1, 1), ret(1)), [][]int{{1}, {1}})
	wantLive(t, of(3, call(1, 2, 1, 0), ret(1)), [][]int{{0, 1, 2}, {1}})
	wantLive(t, of(3, call(1, 2, 0), ret(1)), [][]int{{0, 2}, {1}})
	wantLive(t, of(3, api.Ins{Op: api.InsGet, A: 1, B: 1, C: 2}, ret(1)), [][]int{{1}, {1}})
}

// TestCellsAreNoRegisters: what get, put and new have in C is a cell.
func TestCellsAreNoRegisters(t *testing.T) { // P12.1
	for _, op := range []int{api.InsGet, api.InsPut, api.InsNew} {
		for _, l := range Tables(of(4, api.Ins{Op: op, A: 0, B: 1, C: 2}, step)) {
			if slices.Contains(l, 2) {
				t.Error(op, l)
			}
		}
	}
}

func TestStraightCode(t *testing.T) { // P12.1, P12.2
	wantLive(t, of(4, num(0), num(1), add(2, 0, 1), out(2), move(3, 2), out(0), ret(3)), [][]int{no, {0}, {0, 1}, {0, 2}, {0, 2}, {0, 3}, {3}})
	// What stands behind the end of the way wants nothing ahead of it.
	wantLive(t, of(3, num(0), ret(1), out(0), ret(2)), [][]int{{1}, {1}, {0, 2}, {2}}, 0)
	wantLive(t, of(3, num(0), api.Ins{Op: api.InsStop, A: 1}, out(0), ret(2)), [][]int{{1}, {1}, {0, 2}, {2}}, 0)
	// Of two writes behind one another the first one is for nothing.
	wantLive(t, of(1, num(0), num(0), ret(0)), [][]int{no, no, {0}}, 0)
}

func TestCallsAndMerges(t *testing.T) { // P12.1, P12.2
	wantLive(t, of(6, call(0), ret(0)), [][]int{no, {0}})
	wantLive(t, of(6, call(0), ret(1)), [][]int{{1}, {1}}, 0)
	wantLive(t, of(6, call(0, 3), ret(0)), [][]int{{3}, {0}})
	wantLive(t, of(6, call(0, 5, 3, 4, 1), ret(0)), [][]int{{1, 3, 4, 5}, {0}})
	wantLive(t, of(6, call(0, 3, 3), ret(3)), [][]int{{3}, {3}}, 0)
	wantLive(t, of(6, merge(0), ret(0)), [][]int{{0}, {0}})
	wantLive(t, of(6, merge(0, 3), ret(0)), [][]int{{0, 3}, {0}})
	wantLive(t, of(6, merge(0, 5, 3, 4, 1), ret(0)), [][]int{{0, 1, 3, 4, 5}, {0}})
	wantLive(t, of(6, merge(0, 3, 3, 0, 3), ret(0)), [][]int{{0, 3}, {0}})
	var falling []int
	for n := 999; n >= 0; n-- {
		falling = append(falling, n, n)
	}
	rising := slices.Compact(slices.Sorted(slices.Values(falling)))
	for _, i := range []api.Ins{call(0, falling...), merge(0, falling...)} {
		wantLive(t, of(1000, i, ret(0)), [][]int{rising, {0}})
		wantLive(t, of(70, i, ret(0)), [][]int{rising[:70], {0}})
	}
}

func TestJumpsAhead(t *testing.T) { // P12.1, P12.2
	wantLive(t, of(3, jump(2), out(0), ret(1)), [][]int{{1}, {0, 1}, {1}})
	// A write that is jumped over keeps nobody from wanting what was there.
	wantLive(t, of(3, jump(2), num(1), ret(1)), [][]int{{1}, no, {1}})
	// Two ways that meet: each wants what it reads, both what is read behind.
	wantLive(t, of(5, zero(0, 3), move(3, 1), jump(4), move(3, 2), ret(3)), [][]int{{0, 1, 2}, {1}, {3}, {2}, {3}})
	// Written on one of two ways alone: it is wanted ahead, for the other one.
	wantLive(t, of(5, num(3), zero(0, 3), move(3, 1), ret(3)), [][]int{{0, 1}, {0, 1, 3}, {1}, {3}})
	// Written on both: it isn't.
	wantLive(t, of(5, num(3), zero(0, 4), move(3, 1), jump(5), num(3), ret(3)), [][]int{{0, 1}, {0, 1}, {1}, {3}, no, {3}}, 0)
}

func TestZeros(t *testing.T) { // P12.1
	wantLive(t, of(4, zero(0, 2), ret(1), ret(2)), [][]int{{0, 1, 2}, {1}, {2}})
	wantLive(t, of(4, zero(0, 1), ret(1), ret(2)), [][]int{{0, 1}, {1}, {2}})
	wantLive(t, of(4, jump(2), ret(1), zero(0, 1)), [][]int{{0, 1}, {1}, {0, 1}})
}

// TestPlacesThatThereAreNot has jumps and zeros to places that there aren't, and to themselves.
func TestPlacesThatThereAreNot(t *testing.T) { // P12.1, P12.2
	for _, k := range []int64{-1, 3, 4, 1 << 32, 1<<32 + 1, -1 << 63, 1<<63 - 1} {
		wantLive(t, of(3, num(2), jump(k), ret(2)), [][]int{no, no, {2}}, 0)
		wantLive(t, of(3, num(2), zero(0, k), ret(2)), [][]int{{0}, {0, 2}, {2}})
	}
	wantLive(t, of(3, num(2), jump(1), ret(2)), [][]int{no, no, {2}}, 0)
	wantLive(t, of(3, num(2), zero(0, 1), ret(2)), [][]int{{0}, {0, 2}, {2}})
	wantLive(t, of(3, jump(0)), [][]int{no})
	wantLive(t, of(3, zero(1, 0)), [][]int{{1}})
	wantLive(t, of(3, zero(1, 7)), [][]int{{1}})
}

// TestOpenEnds has code whose last instruction is none of jump, ret, stop: nothing is wanted behind it.
func TestOpenEnds(t *testing.T) { // P12.1, P12.2
	wantLive(t, of(3, num(0), num(1), out(0)), [][]int{no, {0}, {0}}, 1)
	wantLive(t, of(3, num(0), move(1, 0)), [][]int{no, {0}}, 1)
	wantLive(t, of(3, step), [][]int{no})
	wantLive(t, of(3, num(0), zero(0, 0)), [][]int{no, {0}})
	wantLive(t, of(3, num(0), api.Ins{Op: 29}), [][]int{no, no}, 0)
	// More lies behind the length.
	wantLive(t, of(3, append([]api.Ins{num(0), step, ret(0)}, step)[:2]...), [][]int{no, no}, 0)
}

func TestLoops(t *testing.T) { // P12.1, P12.2
	// 0: n in 0, s in 1; while n { s = s + n; n = n - 1 } return s.
	wantLive(t, of(3, num(0), num(1), zero(0, 7), add(1, 1, 0), num(2), add(0, 0, 2), jump(2), ret(1)),
		[][]int{no, {0}, {0, 1}, {0, 1}, {0, 1}, {0, 1, 2}, {0, 1}, {1}})
	// What is read ahead in the loop alone is wanted to its end.
	wantLive(t, of(3, out(0), num(1), zero(2, 0), ret(1)), [][]int{{0, 2}, {0, 2}, {0, 1, 2}, {1}})
	// What the loop writes ahead of reading it isn't wanted at its end.
	wantLive(t, of(3, num(0), out(0), num(1), jump(0)), [][]int{no, {0}, no, no}, 2)
	// A register that is written and read by one instruction of a loop alone is live all over it.
	wantLive(t, of(2, num(0), add(0, 0, 0), jump(1)), [][]int{no, {0}, {0}})
}

func TestLoopsWithinLoops(t *testing.T) { // P12.1, P12.2
	f := of(6,
		num(0),       // 0
		zero(0, 8),   // 1: the outer loop
		move(1, 0),   // 2
		zero(1, 6),   // 3: the inner loop
		add(1, 1, 3), // 4
		jump(3),      // 5
		add(0, 0, 4), // 6
		jump(1),      // 7
		ret(5),       // 8
	)
	wantLive(t, f, [][]int{{3, 4, 5}, {0, 3, 4, 5}, {0, 3, 4, 5}, {0, 1, 3, 4, 5}, {0, 1, 3, 4, 5}, {0, 1, 3, 4, 5}, {0, 3, 4, 5}, {0, 3, 4, 5}, {5}})
	// Without the read of 1 in the inner loop nobody wants it.
	f.Code[3].A, f.Code[4].B = 0, 0
	wantLive(t, f, [][]int{{3, 4, 5}, {0, 3, 4, 5}, {0, 3, 4, 5}, {0, 3, 4, 5}, {0, 3, 4, 5}, {0, 3, 4, 5}, {0, 3, 4, 5}, {0, 3, 4, 5}, {5}}, 2, 4)
}

// TestLeast: in loops that nobody leaves sets that have a register all over would do as well; but they aren't the least.
func TestLeast(t *testing.T) { // P12.1
	wantLive(t, of(2, step, jump(0)), [][]int{no, no})
	wantLive(t, of(2, jump(0)), [][]int{no})
	wantLive(t, of(2, num(1), step, jump(1)), [][]int{no, no, no}, 0)
	wantLive(t, of(3, num(0), zero(0, 1), step, jump(1), ret(2)), [][]int{no, {0}, {0}, {0}, {2}})
	// The loop is left by no way, though something stands behind it.
	wantLive(t, of(3, step, jump(0), out(1), ret(2)), [][]int{no, no, {1, 2}, {2}})
	// Two loops that go on into one another.
	wantLive(t, of(3, jump(3), jump(2), jump(1), step, jump(0)), [][]int{no, no, no, no, no})
}

// TestCodeThatNoWayComesTo is reckoned like all other code.
func TestCodeThatNoWayComesTo(t *testing.T) { // P12.1, P12.2
	wantLive(t, of(5, ret(0), num(1), add(2, 1, 3), jump(1), out(4)), [][]int{{0}, {3}, {1, 3}, {3}, {4}}, 2)
	// It wants what is wanted where it goes on, and nothing is wanted for it elsewhere.
	wantLive(t, of(5, num(1), jump(3), zero(1, 0), ret(2)), [][]int{{2}, {2}, {1, 2}, {2}}, 0)
}

// TestNamesAndParamsDoNotCount: the tables hang on Regs and the code alone.
func TestNamesAndParamsDoNotCount(t *testing.T) { // P12.1, P3
	for _, params := range []int{-1, 0, 1, 2, 3, 1 << 40} {
		f := of(2, num(0), num(1), ret(0))
		f.Name, f.Params = "g", params
		wantLive(t, f, [][]int{no, {0}, {0}}, 1)
	}
}

// TestOddOpsWithin: an Op that is none reads and writes nothing, and goes on.
func TestOddOpsWithin(t *testing.T) { // P12.1, P12.2
	for _, op := range oddOps {
		odd := api.Ins{Op: op, A: 0, B: 1, C: 2, K: 0, L: []int{1, 2}}
		wantLive(t, of(3, num(0), odd, ret(0)), [][]int{no, {0}, {0}})
		wantLive(t, of(3, num(1), odd, ret(0)), [][]int{{0}, {0}, {0}}, 0)
		wantLive(t, of(3, odd, odd, jump(0)), [][]int{no, no, no})
	}
}
