package live

import (
	"math/rand"
	"slices"
	"testing"

	"swath/api"
)

// long is as many instructions as a function may have.
const long = 100000

func TestLongStraightCode(t *testing.T) { // P12.1, P12.2
	f := of(3, append(slices.Repeat([]api.Ins{num(1)}, long-1), ret(0))...)
	for at, l := range Tables(f) {
		if !slices.Equal(l, []int{0}) {
			t.Fatal(at, l)
		}
	}
	if l := Dead(f); len(l) != long-1 || !slices.IsSorted(l) || l[0] != 0 || l[long-2] != long-2 {
		t.Fatal(len(l))
	}
}

// TestLongWays has what the last instruction reads found at the first one, by ways that jump to and fro.
func TestLongWays(t *testing.T) { // P12.1, P12.2
	f := api.Func{Regs: 1000, Code: make([]api.Ins, long)}
	order := rand.New(rand.NewSource(127)).Perm(long)
	for n, at := range order[:long-1] {
		f.Code[at] = jump(int64(order[n+1]))
	}
	f.Code[order[long-1]] = ret(999)
	for at, l := range Tables(f) {
		if !slices.Equal(l, []int{999}) {
			t.Fatal(at, l)
		}
	}
	// A way on that is cut: nobody ahead of it wants anything.
	f.Code[order[long/2]].K = -1
	live := Tables(f)
	for n, at := range order {
		if (len(live[at]) == 0) != (n <= long/2) {
			t.Fatal(n, at, live[at])
		}
	}
	if l := Dead(f); len(l) != 0 {
		t.Fatal(len(l))
	}
}

// TestLongLoop has a loop of all instructions, each of which reads a register of its own, or writes it.
func TestLongLoop(t *testing.T) { // P12.1, P12.2
	f := api.Func{Regs: 20}
	for at := range long - 1 {
		f.Code = append(f.Code, step)
		if at%5000 == 0 {
			f.Code[at] = out(at / 5000)
		}
	}
	f.Code = append(f.Code, jump(0))
	for at, l := range Tables(f) {
		if len(l) != 20 {
			t.Fatal(at, l)
		}
	}
	f.Code[2500] = num(3)
	for at, l := range Tables(f) {
		if slices.Contains(l, 3) != (at > 2500 && at <= 15000) {
			t.Fatal(at, l)
		}
	}
	if l := Dead(f); len(l) != 0 {
		t.Fatal(l)
	}
	// Written just behind where it is read: it is live but there and far round.
	f.Code[2500], f.Code[15001] = step, num(3)
	for at, l := range Tables(f) {
		if slices.Contains(l, 3) != (at != 15001) {
			t.Fatal(at, l)
		}
	}
}

// TestManyWaysToOnePlace has all but one instruction go on at the first one.
func TestManyWaysToOnePlace(t *testing.T) { // P12.1
	f := of(2, slices.Repeat([]api.Ins{jump(0)}, long)...)
	f.Code[0] = zero(1, 0)
	for at, l := range Tables(f) {
		if !slices.Equal(l, []int{1}) {
			t.Fatal(at, l)
		}
	}
}

// TestMoreThanMayBe has a function with more instructions than ir.Check takes.
func TestMoreThanMayBe(t *testing.T) { // P12.1, P12.2
	f := of(1, append(slices.Repeat([]api.Ins{step}, 2*long), ret(0))...)
	f.Code[7] = num(0)
	for at, l := range Tables(f) {
		if (len(l) == 1) != (at > 7) {
			t.Fatal(at, l)
		}
	}
	if l := Dead(f); len(l) != 0 {
		t.Fatal(l)
	}
	f.Code[2*long].Op = api.InsStep
	if l := Dead(f); !slices.Equal(l, []int{7}) {
		t.Fatal(l)
	}
}
