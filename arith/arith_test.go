package arith

import (
	"math"
	"math/big"
	"testing"

	"swath/api"
)

const (
	least    = math.MinInt64
	greatest = math.MaxInt64
)

// edges are the numbers at which something turns: signs, shifts, halves of the product's range, both ends.
func edges() []int64 {
	l := []int64{0}
	for _, n := range []int64{1, 2, 3, 5, 7, 31, 62, 63, 64, 65, 127, 128, 1<<31 - 1, 1 << 31, 1 << 32, 3037000499, 3037000500, 1 << 61, 1 << 62, greatest - 1, greatest} {
		l = append(l, n, -n)
	}
	return append(l, least)
}

// mixed are numbers without a pattern, the same in every run.
func mixed(count int) []int64 {
	l := make([]int64, count)
	x := uint64(88172645463325252)
	for i := range l {
		x ^= x << 13
		x ^= x >> 7
		x ^= x << 17
		l[i] = int64(x) >> (x % 60)
	}
	return l
}

func noOps() []int {
	return []int{0, -1, -13, 16, 17, 99, 256 + 1, math.MaxInt, math.MinInt, math.MinInt + 1}
}

// wrapped brings a number without bounds into 64 bits.
func wrapped(n *big.Int) int64 {
	m := new(big.Int).And(n, new(big.Int).SetUint64(math.MaxUint64))
	return int64(m.Uint64())
}

// fully is what an operation makes of two numbers where nothing wraps round.
func fully(op int, a, b int64) *big.Int {
	x, y, n := big.NewInt(a), big.NewInt(b), new(big.Int)
	bit := func(yes bool) *big.Int {
		if yes {
			n.SetInt64(1)
		}
		return n
	}
	switch op {
	case 1:
		return n.Add(x, y)
	case 2:
		return n.Sub(x, y)
	case 3:
		return n.Mul(x, y)
	case 4:
		return n.Quo(x, y)
	case 5:
		return n.Rem(x, y)
	case 6:
		return n.Lsh(x, uint(new(big.Int).And(y, big.NewInt(63)).Int64()))
	case 7:
		return n.Rsh(x, uint(new(big.Int).And(y, big.NewInt(63)).Int64()))
	case 8:
		return n.And(x, y)
	case 9:
		return n.Or(x, y)
	case 10:
		return n.Xor(x, y)
	case 11:
		return bit(x.Cmp(y) < 0)
	case 12:
		return bit(x.Cmp(y) <= 0)
	case 13:
		return n.Neg(x)
	case 14:
		return bit(x.Sign() == 0)
	}
	return n.Not(x)
}

// P1.1: the document's sentences, one by one, with its edges.
func TestDoAsTold(t *testing.T) {
	for _, x := range []struct {
		op   int
		a, b int64
		want int64
		trap int
	}{
		{1, 2, 3, 5, 0}, {1, greatest, 1, least, 0}, {1, least, -1, greatest, 0}, {1, least, least, 0, 0},
		{2, 2, 3, -1, 0}, {2, least, 1, greatest, 0}, {2, 0, least, least, 0}, {2, -1, least, greatest, 0},
		{3, -4, 3, -12, 0}, {3, least, -1, least, 0}, {3, 1 << 32, 1 << 32, 0, 0}, {3, greatest, 2, -2, 0},
		{4, 7, 2, 3, 0}, {4, -7, 2, -3, 0}, {4, 7, -2, -3, 0}, {4, -7, -2, 3, 0}, {4, least, -1, least, 0}, {4, least, 1, least, 0}, {4, 0, 5, 0, 0},
		{5, 7, 2, 1, 0}, {5, -7, 2, -1, 0}, {5, 7, -2, 1, 0}, {5, -7, -2, -1, 0}, {5, least, -1, 0, 0}, {5, least, 3, -2, 0},
		{4, 5, 0, 0, api.TrapDiv}, {4, 0, 0, 0, api.TrapDiv}, {4, least, 0, 0, api.TrapDiv},
		{5, 5, 0, 0, api.TrapDiv}, {5, 0, 0, 0, api.TrapDiv}, {5, least, 0, 0, api.TrapDiv},
		{6, 1, 3, 8, 0}, {6, 1, 63, least, 0}, {6, 1, 64, 1, 0}, {6, 1, 65, 2, 0}, {6, 1, -1, least, 0}, {6, 1, -64, 1, 0}, {6, 3, least, 3, 0}, {6, 3, least + 1, 6, 0}, {6, 1, 1 << 32, 1, 0}, {6, -1, 1, -2, 0},
		{7, 8, 1, 4, 0}, {7, -8, 1, -4, 0}, {7, -1, 63, -1, 0}, {7, least, 63, -1, 0}, {7, greatest, 63, 0, 0}, {7, -8, 64, -8, 0}, {7, -8, 65, -4, 0}, {7, -8, -1, -1, 0}, {7, -8, -63, -4, 0}, {7, 8, 1 << 40, 8, 0},
		{8, 12, 10, 8, 0}, {8, -1, 7, 7, 0}, {9, 12, 10, 14, 0}, {9, -8, 3, -5, 0}, {10, 12, 10, 6, 0}, {10, -1, 5, -6, 0},
		{11, 1, 2, 1, 0}, {11, 2, 2, 0, 0}, {11, 3, 2, 0, 0}, {11, least, greatest, 1, 0}, {11, greatest, least, 0, 0},
		{12, 1, 2, 1, 0}, {12, 2, 2, 1, 0}, {12, 3, 2, 0, 0}, {12, least, greatest, 1, 0}, {12, greatest, least, 0, 0},
		{13, 5, 9, -5, 0}, {13, 0, 9, 0, 0}, {13, least, 9, least, 0}, {13, 5, least, -5, 0},
		{14, 0, 9, 1, 0}, {14, 1, 9, 0, 0}, {14, -1, 0, 0, 0}, {14, least, 0, 0, 0},
		{15, 5, 9, -6, 0}, {15, 0, 0, -1, 0}, {15, least, 7, greatest, 0},
	} {
		if n, trap := Do(x.op, x.a, x.b); n != x.want || trap != x.trap {
			t.Errorf("Do(%d, %d, %d) is %d, %d; wanted %d, %d", x.op, x.a, x.b, n, trap, x.want, x.trap)
		}
	}
}

// P1.1: every operation against numbers without bounds.
func TestDoAgainstUnboundedNumbers(t *testing.T) {
	l := append(edges(), mixed(60)...)
	for op := 1; op <= 15; op++ {
		for _, a := range l {
			for _, b := range l {
				n, trap := Do(op, a, b)
				if (op == 4 || op == 5) && b == 0 {
					if n != 0 || trap != api.TrapDiv {
						t.Fatalf("Do(%d, %d, 0) is %d, %d", op, a, n, trap)
					}
					continue
				}
				if want := wrapped(fully(op, a, b)); n != want || trap != 0 {
					t.Fatalf("Do(%d, %d, %d) is %d, %d; wanted %d", op, a, b, n, trap, want)
				}
			}
		}
	}
}

// P1.1: an operation that is none traps, even with 0 as its second number.
func TestDoOfNoOperation(t *testing.T) {
	for _, op := range noOps() {
		for _, b := range []int64{0, 1, -1, least} {
			if n, trap := Do(op, 7, b); n != 0 || trap != api.TrapType {
				t.Errorf("Do(%d, 7, %d) is %d, %d", op, b, n, trap)
			}
		}
	}
}

// P1.2.
func TestUnaryAndName(t *testing.T) {
	want := []string{"", "+", "-", "*", "/", "%", "<<", ">>", "&", "|", "^", "<", "<=", "-", "!", "~"}
	for op := 1; op <= 15; op++ {
		if Name(op) != want[op] {
			t.Errorf("Name(%d) is %q", op, Name(op))
		}
		if Unary(op) != (op >= 13) {
			t.Errorf("Unary(%d) is %v", op, Unary(op))
		}
	}
	for _, op := range noOps() {
		if Name(op) != "" || Unary(op) {
			t.Errorf("operation %d: %q, %v", op, Name(op), Unary(op))
		}
	}
}

// do is Do of operations that can't trap.
func do(t *testing.T, op int, a, b int64) int64 {
	t.Helper()
	n, trap := Do(op, a, b)
	if trap != 0 {
		t.Fatalf("Do(%d, %d, %d) traps: %d", op, a, b, trap)
	}
	return n
}

// P1.5.
func TestRing(t *testing.T) {
	l := append(edges(), mixed(10)...)
	add := func(a, b int64) int64 { return do(t, api.OpAdd, a, b) }
	sub := func(a, b int64) int64 { return do(t, api.OpSub, a, b) }
	mul := func(a, b int64) int64 { return do(t, api.OpMul, a, b) }
	for _, a := range l {
		if add(a, do(t, api.OpNeg, a, 0)) != 0 || add(a, 0) != a || mul(a, 1) != a {
			t.Fatal("0, 1 and negatives", a)
		}
		for _, b := range l {
			if add(a, b) != add(b, a) || mul(a, b) != mul(b, a) {
				t.Fatal("the order of two", a, b)
			}
			if sub(add(a, b), b) != a || add(sub(a, b), b) != a {
				t.Fatal("differences undo sums", a, b)
			}
			for _, c := range l {
				if add(add(a, b), c) != add(a, add(b, c)) || mul(mul(a, b), c) != mul(a, mul(b, c)) {
					t.Fatal("the order of three", a, b, c)
				}
				if mul(a, add(b, c)) != add(mul(a, b), mul(a, c)) {
					t.Fatal("products part over sums", a, b, c)
				}
			}
		}
	}
}
