package live

import (
	"math"
	"slices"
	"testing"

	"swath/api"
)

func wantDead(t *testing.T, f api.Func, want ...int) {
	t.Helper()
	if l := Dead(f); !slices.Equal(l, want) {
		t.Errorf("%v are dead; wanted %v of %v", l, want, f)
	}
	wantReckoned(t, f)
}

func TestDeadWrites(t *testing.T) { // P12.2
	wantDead(t, of(2, num(0), num(1), ret(0)), 1)
	wantDead(t, of(2, num(0), ret(0)))
	wantDead(t, of(2, num(1), ret(0)), 0)
	wantDead(t, of(2, num(1), num(1), num(1), ret(0)), 0, 1, 2)
	wantDead(t, of(2, num(1), num(1), num(1), ret(1)), 0, 1)
}

// TestWantedByTheDead: what a dead instruction reads is live all the same, so that who writes that is none.
func TestWantedByTheDead(t *testing.T) { // P12.2
	wantDead(t, of(4, num(0), move(1, 0), ret(2)), 1)
	wantDead(t, of(4, num(0), move(1, 0), move(2, 1), ret(3)), 2)
	wantDead(t, of(4, num(0), add(0, 0, 0), ret(3)), 1)
	// In a loop the one wants itself.
	wantDead(t, of(4, num(0), add(0, 0, 0), jump(1)))
}

func TestDeadAtTheEnd(t *testing.T) { // P12.2
	for op := 1; op <= ops; op++ {
		i := api.Ins{Op: op, A: 1, B: 2, C: 3, K: 1}
		var want []int
		if len(column(i, 1)) > 0 {
			want = []int{1}
		}
		// It writes what is read at the beginning, but there no way leads.
		wantDead(t, of(4, out(1), i), want...)
		wantDead(t, of(4, i, jump(7)), slices.Repeat([]int{0}, len(want))...)
	}
}

// TestNoWriteIsDead: instructions that write nothing are not dead, whatever they do.
func TestNoWriteIsDead(t *testing.T) { // P12.2
	for _, op := range []int{api.InsPut, api.InsSetElem, api.InsOut, api.InsSetRoot, api.InsJump, api.InsZero, api.InsRet, api.InsStop, api.InsStep, api.InsMerge, 0, 29} {
		for a := -2; a < 5; a++ {
			wantDead(t, of(3, api.Ins{Op: op, A: a, B: a, C: a, K: 1}, ret(0)))
		}
	}
}

// TestAllWritesAreAlike: what an instruction does beside its write is not looked at.
func TestAllWritesAreAlike(t *testing.T) { // P12.2
	written := 0
	for op := 1; op <= ops; op++ {
		i := api.Ins{Op: op, A: 2, B: 1, C: 1, K: 1, L: []int{1}}
		if len(column(i, 1)) == 0 {
			continue
		}
		written++
		wantDead(t, of(3, i, ret(0)), 0)
		wantDead(t, of(3, i, ret(2)))
	}
	if written != 18 {
		t.Error(written)
	}
}

// TestDeadOnOneWay: a write is wanted, if it is on one of the ways that follow.
func TestDeadOnOneWay(t *testing.T) { // P12.2
	wantDead(t, of(3, num(1), zero(0, 3), ret(1), ret(0)))
	wantDead(t, of(3, num(1), zero(0, 3), ret(0), ret(1)))
	wantDead(t, of(3, num(1), zero(0, 3), ret(0), ret(0)), 0)
	wantDead(t, of(3, num(1), zero(0, 4), num(1), ret(1), num(1), ret(1)), 0)
	wantDead(t, of(3, num(1), zero(0, 3), num(1), ret(1)))
}

// TestDeadRegistersThatThereAreNot: such registers don't count, so that whoever writes one is not dead, though it is live nowhere.
func TestDeadRegistersThatThereAreNot(t *testing.T) { // P12.2
	wantDead(t, of(1, num(0), num(1), out(1), ret(0)))
	wantDead(t, of(1, num(-2), out(-2), ret(0)))
	wantDead(t, of(1, num(-1), out(-1), ret(0)))
	wantDead(t, of(1, num(-2), num(-1), num(0), ret(0)))
	wantDead(t, of(1, num(1), api.Ins{Op: api.InsNull, A: 64}, num(0), ret(0)))
	wantDead(t, of(0, num(0)))
	wantDead(t, of(0, num(0), ret(0)))
	wantDead(t, of(-3, num(0), num(-3), ret(0)))
	wantDead(t, of(2000, num(999), num(1000), add(999, 999, 1000), ret(999)))
	wantDead(t, of(2000, num(999), num(1000), num(1999), ret(0)), 0)
	// Beside such as there are, with nobody who asks for either.
	wantDead(t, of(2, num(-1), num(0), num(1), num(2), ret(5)), 1, 2)
}

// TestNoOpIsDeadOfARegisterThatThereIsNot has all instructions write registers just beside those that there are, and far from them.
func TestNoOpIsDeadOfARegisterThatThereIsNot(t *testing.T) { // P12.2
	for op := 1; op <= ops; op++ {
		for _, regs := range sizes {
			for _, a := range []int{-1, -2, min(max(regs, 0), 1000), max(regs, 1000), math.MinInt, math.MaxInt} {
				wantDead(t, of(regs, api.Ins{Op: op, A: a, K: 1, L: []int{a}}, ret(0)))
			}
		}
	}
}
