package live

import (
	"math"
	"slices"
	"testing"

	"swath/api"
)

// numbers are registers at and about all bounds.
var numbers = []int{math.MinInt, -1 << 32, -1000, -65, -64, -63, -2, -1, 0, 1, 2, 62, 63, 64, 65, 127, 128, 959, 960, 961, 998, 999,
	1000, 1001, 1022, 1023, 1024, 1025, 1<<32 - 1, 1 << 32, 1<<32 + 1, math.MaxInt}

// sizes are Regs at and about all bounds.
var sizes = []int{math.MinInt, -1000, -1, 0, 1, 2, 63, 64, 65, 66, 128, 129, 960, 961, 999, 1000, 1001, 1002, 1023, 1024, 1025, 5000, 1 << 32, math.MaxInt}

// counted tells whether a register counts in a function with so many.
func counted(n, regs int) bool { return n >= 0 && n < regs && n < 1000 }

// onlyIf is a list of one number, or of none.
func onlyIf(is bool, n int) []int {
	if is {
		return []int{n}
	}
	return nil
}

func TestRegistersThatAreRead(t *testing.T) { // P12.1
	for _, regs := range sizes {
		for _, n := range numbers {
			want := onlyIf(counted(n, regs), n)
			wantLive(t, of(regs, step, out(n)), [][]int{want, want})
			wantLive(t, of(regs, jump(1), zero(n, 0)), [][]int{want, want})
			wantLive(t, of(regs, merge(0, n, n), ret(n)), [][]int{want, want})
			wantLive(t, of(regs, api.Ins{Op: api.InsPut, A: n, B: n, C: 1}, api.Ins{Op: api.InsSetElem, A: n, B: n, C: n}), [][]int{want, want})
		}
	}
}

func TestRegistersThatAreWritten(t *testing.T) { // P12.1, P12.2
	for _, regs := range sizes {
		for _, n := range numbers {
			// A register that isn't there is live nowhere, but nobody writes it for nothing either.
			wantLive(t, of(regs, num(n), ret(n)), [][]int{nil, onlyIf(counted(n, regs), n)})
			// It hides no other one.
			wantLive(t, of(regs, num(n), ret(5)), [][]int{onlyIf(n != 5 && counted(5, regs), 5), onlyIf(counted(5, regs), 5)}, onlyIf(n != 5 && counted(n, regs), 0)...)
			both := onlyIf(counted(n, regs), n)
			wantLive(t, of(regs, move(n, n), ret(n)), [][]int{both, both})
		}
	}
}

// TestRegsAlone has code that names registers at and about all bounds, whatever Regs is.
func TestRegsAlone(t *testing.T) { // P12.1, P12.2
	for _, regs := range sizes {
		var want []int
		for _, n := range numbers {
			if counted(n, regs) {
				want = append(want, n)
			}
		}
		f := of(regs, merge(0, numbers...), call(3, numbers...), ret(0))
		wantLive(t, f, [][]int{want, want, onlyIf(regs > 0, 0)}, onlyIf(regs > 3, 1)...)
	}
}

// TestRegistersFrom1000On has code that names no register below 1000.
func TestRegistersFrom1000On(t *testing.T) { // P12.1, P12.2
	for _, regs := range []int{999, 1000, 1001, 1010, 2000, math.MaxInt} {
		wantLive(t, of(regs, num(1000), num(1005), add(1001, 1000, 1005), zero(1001, 0), call(1002, 1003, 1004), ret(1002)), make([][]int, 6))
		wantLive(t, of(regs, num(998), num(1000), ret(998)), [][]int{no, {998}, {998}})
		wantLive(t, of(regs, num(998), num(997), num(1000), ret(998)), [][]int{no, {998}, {998}, {998}}, 1)
	}
}

// TestOneRegisterOfMany: each register is apart from all others.
func TestOneRegisterOfMany(t *testing.T) { // P12.1, P12.2
	for n := range 1000 {
		wantLive(t, of(1000, num(n), out(n), ret(n)), [][]int{no, {n}, {n}})
		other := (n + 64) % 1000
		wantLive(t, of(1000, num(other), ret(n)), [][]int{{n}, {n}}, 0)
		wantLive(t, of(n, num(n), ret(n)), [][]int{no, no})
		wantLive(t, of(n, num(n), step), [][]int{no, no})
		wantLive(t, of(n+1, num(n), step), [][]int{no, no}, 0)
	}
}

// TestAllRegisters has all of a thousand live at one place, one fewer at each place behind.
func TestAllRegisters(t *testing.T) { // P12.1, P12.2
	var f api.Func
	f.Regs = 1000
	for n := range 1000 {
		f.Code = append(f.Code, out((n*7)%1000))
	}
	live := Tables(f)
	for at, l := range live {
		if len(l) != 1000-at || !slices.IsSorted(l) || len(slices.Compact(slices.Clone(l))) != len(l) || !slices.Contains(l, at*7%1000) {
			t.Fatal(at, len(l))
		}
	}
	// Round a loop all are live everywhere.
	f.Code = append(f.Code, jump(0))
	for at, l := range Tables(f) {
		if len(l) != 1000 || l[0] != 0 || l[999] != 999 || !slices.IsSorted(l) {
			t.Fatal(at, len(l))
		}
	}
}
