package arith

import (
	"math/big"
	"testing"

	"swath/api"
)

func sp(lo, hi int64) api.Span { return api.Span{Lo: lo, Hi: hi} }

// P1.3: the document's sentences, one by one, with their edges.
func TestSpansAsTold(t *testing.T) {
	no, all := sp(0, -1), sp(least, greatest)
	for _, x := range []struct {
		op         int
		a, b, want api.Span
	}{
		// Spans that are none, however they are written.
		{1, sp(2, 1), sp(0, 1), no}, {1, sp(0, 1), sp(greatest, least), no}, {4, sp(5, 4), sp(1, 1), no}, {9, sp(1, 1), no, no}, {11, no, no, no},
		{13, sp(9, 3), sp(0, 0), no}, {14, no, sp(0, 0), no}, {15, sp(1, 0), sp(4, 4), no},
		{13, sp(2, 3), sp(9, 3), sp(-3, -2)}, {14, sp(1, 4), sp(5, 1), sp(0, 0)}, {15, sp(1, 4), no, all},
		// Sums and differences.
		{1, sp(1, 3), sp(-2, 4), sp(-1, 7)}, {1, sp(least, -1), sp(0, greatest), sp(least, greatest-1)}, {1, sp(0, greatest), sp(0, 1), all}, {1, sp(least, 0), sp(-1, 0), all}, {1, sp(greatest-1, greatest), sp(greatest-1, greatest), all},
		{2, sp(1, 3), sp(-2, 4), sp(-3, 5)}, {2, sp(-3, -1), sp(least, least+1), sp(greatest-3, greatest)}, {2, sp(-1, 0), sp(least, least), all}, {2, sp(least, 0), sp(0, 1), all}, {2, sp(0, greatest), sp(-1, 0), all}, {2, sp(0, greatest), sp(0, greatest), sp(-greatest, greatest)},
		// Products: the least and the greatest may come from any two ends.
		{3, sp(-2, 3), sp(-5, 4), sp(-15, 12)}, {3, sp(2, 3), sp(4, 5), sp(8, 15)}, {3, sp(-3, -2), sp(-5, -4), sp(8, 15)}, {3, sp(-3, 2), sp(-5, 7), sp(-21, 15)}, {3, sp(0, 0), sp(least, greatest), sp(0, 0)}, {3, sp(least, greatest), sp(0, 0), sp(0, 0)},
		{3, sp(least, greatest), sp(1, 1), all}, {3, sp(least, 5), sp(1, 1), sp(least, 5)}, {3, sp(-1, -1), sp(least, 5), all}, {3, sp(least, 5), sp(-1, -1), all}, {3, sp(-1, 0), sp(-greatest, 1), sp(-1, greatest)}, {3, sp(0, 1<<32), sp(0, 1<<31), all}, {3, sp(0, 1<<31), sp(-1<<32, 0), sp(least, 0)}, {3, sp(1<<32, 1<<33), sp(1<<32, 1<<33), all},
		// Comparisons.
		{11, sp(1, 3), sp(4, 9), sp(1, 1)}, {11, sp(1, 3), sp(3, 4), sp(0, 1)}, {11, sp(3, 5), sp(1, 3), sp(0, 0)}, {11, sp(3, 5), sp(1, 4), sp(0, 1)}, {11, sp(least, greatest), sp(least, least), sp(0, 0)}, {11, sp(greatest, greatest), sp(least, greatest), sp(0, 0)},
		{12, sp(1, 3), sp(3, 9), sp(1, 1)}, {12, sp(1, 3), sp(2, 4), sp(0, 1)}, {12, sp(4, 5), sp(1, 3), sp(0, 0)}, {12, sp(3, 5), sp(1, 3), sp(0, 1)}, {12, sp(5, 6), sp(1, 4), sp(0, 0)}, {12, sp(least, greatest), sp(greatest, greatest), sp(1, 1)},
		// Negatives, noes.
		{13, sp(-3, 2), sp(0, 0), sp(-2, 3)}, {13, sp(least+1, greatest), sp(0, 0), sp(-greatest, greatest)}, {13, sp(least, 0), sp(0, 0), all}, {13, sp(least, least), sp(0, 0), sp(least, least)},
		{14, sp(1, 4), sp(0, 0), sp(0, 0)}, {14, sp(-4, -1), sp(0, 9), sp(0, 0)}, {14, sp(0, 0), sp(0, 9), sp(1, 1)}, {14, sp(0, 1), sp(0, 0), sp(0, 1)}, {14, sp(-1, 0), sp(0, 0), sp(0, 1)}, {14, all, no, sp(0, 1)},
		// And.
		{8, sp(0, 9), sp(3, 5), sp(0, 5)}, {8, sp(4, 4), sp(3, 5), sp(0, 4)}, {8, sp(-1, 9), sp(3, 5), all}, {8, sp(0, 9), sp(-1, 5), all}, {8, sp(0, greatest), sp(0, greatest), sp(0, greatest)},
		// Rests.
		{5, sp(-9, 9), sp(4, 4), sp(-3, 3)}, {5, sp(0, 9), sp(4, 4), sp(0, 3)}, {5, sp(-9, -1), sp(4, 4), sp(-3, 3)}, {5, sp(0, 2), sp(100, 100), sp(0, 99)}, {5, sp(-9, 9), sp(1, 1), sp(0, 0)}, {5, all, sp(greatest, greatest), sp(-(greatest - 1), greatest-1)},
		{5, sp(-9, 9), sp(0, 0), all}, {5, sp(-9, 9), sp(-4, -4), all}, {5, sp(0, 9), sp(3, 4), all}, {5, sp(0, 9), sp(least, least), all}, {5, sp(7, 7), sp(1, 2), all},
		// All others.
		{4, sp(4, 8), sp(2, 2), all}, {6, sp(1, 2), sp(1, 1), all}, {6, sp(1, 1), sp(1, 2), all}, {7, sp(8, 9), sp(1, 1), all}, {9, sp(0, 1), sp(0, 1), all}, {10, sp(0, 1), sp(1, 1), all}, {15, sp(0, 1), sp(0, 0), all},
		// Single numbers, some of which wrap round or trap.
		{1, sp(greatest, greatest), sp(1, 1), sp(least, least)}, {2, sp(least, least), sp(1, 1), sp(greatest, greatest)}, {3, sp(least, least), sp(-1, -1), sp(least, least)}, {3, sp(1<<32, 1<<32), sp(1<<32, 1<<32), sp(0, 0)},
		{4, sp(7, 7), sp(2, 2), sp(3, 3)}, {4, sp(least, least), sp(-1, -1), sp(least, least)}, {5, sp(-7, -7), sp(-4, -4), sp(-3, -3)}, {5, sp(7, 7), sp(4, 4), sp(3, 3)}, {6, sp(1, 1), sp(65, 65), sp(2, 2)}, {7, sp(-8, -8), sp(-63, -63), sp(-4, -4)}, {8, sp(-8, -8), sp(12, 12), sp(8, 8)}, {8, sp(5, 5), sp(3, 3), sp(1, 1)}, {9, sp(-8, -8), sp(3, 3), sp(-5, -5)}, {10, sp(6, 6), sp(5, 5), sp(3, 3)}, {15, sp(5, 5), sp(0, 0), sp(-6, -6)},
		{4, sp(7, 7), sp(0, 0), all}, {5, sp(7, 7), sp(0, 0), all}, {5, sp(0, 0), sp(0, 0), all},
		// A second span that isn't one number keeps a unary operation from counting as one of single numbers.
		{13, sp(least, least), sp(0, 9), all}, {15, sp(5, 5), sp(0, 9), all}, {15, sp(5, 5), sp(1, 0), all},
	} {
		if got := Spans(x.op, x.a, x.b); got != x.want {
			t.Errorf("Spans(%d, %v, %v) is %v; wanted %v", x.op, x.a, x.b, got, x.want)
		}
	}
}

// P1.3.
func TestSpansOfNoOperation(t *testing.T) {
	for _, op := range noOps() {
		for _, a := range []api.Span{sp(0, 0), sp(1, 5), sp(3, 2), Whole()} {
			if got := Spans(op, a, sp(1, 1)); got != sp(0, -1) {
				t.Errorf("Spans(%d, %v, ..) is %v", op, a, got)
			}
		}
	}
}

// edgeSpans are spans from each of some edges to each other one, those that are none among them.
func edgeSpans() []api.Span {
	var l []api.Span
	ends := []int64{least, least + 1, -1 << 32, -5, -1, 0, 1, 4, 1 << 31, greatest - 1, greatest}
	for _, lo := range ends {
		for _, hi := range ends {
			l = append(l, sp(lo, hi))
		}
	}
	return l
}

func fits(n *big.Int) bool { return n.IsInt64() }

// fromEnds is the span of the four results of ends, worked out without bounds.
func fromEnds(op int, a, b api.Span) api.Span {
	var lo, hi *big.Int
	for _, n := range []*big.Int{fully(op, a.Lo, b.Lo), fully(op, a.Lo, b.Hi), fully(op, a.Hi, b.Lo), fully(op, a.Hi, b.Hi)} {
		if !fits(n) {
			return sp(least, greatest)
		}
		if lo == nil || n.Cmp(lo) < 0 {
			lo = n
		}
		if hi == nil || n.Cmp(hi) > 0 {
			hi = n
		}
	}
	return sp(lo.Int64(), hi.Int64())
}

// P1.3: where ends wrap round, and where they just don't.
func TestSpansOfEnds(t *testing.T) {
	for _, a := range edgeSpans() {
		for _, b := range edgeSpans() {
			for op := api.OpAdd; op <= api.OpMul; op++ {
				want := sp(0, -1)
				if a.Lo == a.Hi && b.Lo == b.Hi {
					n := wrapped(fully(op, a.Lo, b.Lo))
					want = sp(n, n)
				} else if a.Lo <= a.Hi && b.Lo <= b.Hi {
					want = fromEnds(op, a, b)
				}
				if got := Spans(op, a, b); got != want {
					t.Fatalf("Spans(%d, %v, %v) is %v; wanted %v", op, a, b, got, want)
				}
			}
		}
	}
}

// members are some numbers of a span, its ends among them.
func members(s api.Span) []int64 {
	var l []int64
	for _, n := range append(edges(), s.Lo, s.Hi) {
		if s.Lo <= n && n <= s.Hi {
			l = append(l, n)
		}
	}
	return l
}

// held looks for numbers of a and b for which what Spans says isn't so.
func held(t *testing.T, op int, a, b api.Span, some func(api.Span) []int64) {
	t.Helper()
	s := Spans(op, a, b)
	seconds := some(b)
	if Unary(op) {
		seconds = []int64{0, b.Lo}
	}
	for _, x := range some(a) {
		for _, y := range seconds {
			if n, trap := Do(op, x, y); trap == 0 && (n < s.Lo || n > s.Hi) {
				t.Fatalf("Spans(%d, %v, %v) is %v, without %d of %d and %d", op, a, b, s, n, x, y)
			}
		}
	}
}

// P1.6: at the edges.
func TestSpansHeldAtEdges(t *testing.T) {
	ends := []int64{least, -1 << 32, -5, -1, 0, 1, 4, 1 << 31, greatest}
	var l []api.Span
	for i, lo := range ends {
		for _, hi := range ends[i:] {
			l = append(l, sp(lo, hi))
		}
	}
	for op := 1; op <= 15; op++ {
		for _, a := range l {
			for _, b := range l {
				held(t, op, a, b, members)
			}
		}
	}
}

// P1.6: with every number of small spans.
func TestSpansHeldOfSmallNumbers(t *testing.T) {
	every := func(s api.Span) []int64 {
		var l []int64
		for n := s.Lo; n <= s.Hi; n++ {
			l = append(l, n)
		}
		return l
	}
	for op := 1; op <= 15; op++ {
		for lo := int64(-4); lo <= 4; lo++ {
			for hi := lo; hi <= 4; hi++ {
				for from := int64(-4); from <= 4; from++ {
					for to := from; to <= 4; to++ {
						held(t, op, sp(lo, hi), sp(from, to), every)
					}
				}
			}
		}
	}
}

// P1.3.
func TestHas(t *testing.T) {
	for _, x := range []struct {
		s    api.Span
		n    int64
		want bool
	}{{sp(1, 3), 1, true}, {sp(1, 3), 2, true}, {sp(1, 3), 3, true}, {sp(1, 3), 0, false}, {sp(1, 3), 4, false}, {sp(3, 1), 2, false}, {sp(3, 1), 1, false}, {sp(3, 1), 3, false}, {sp(0, -1), 0, false}, {sp(0, -1), -1, false}, {Whole(), least, true}, {Whole(), greatest, true}, {Whole(), 0, true}, {sp(greatest, least), 0, false}} {
		if Has(x.s, x.n) != x.want {
			t.Errorf("Has(%v, %d) is %v", x.s, x.n, !x.want)
		}
	}
}

// P1.4.
func TestMeetAndJoinAsTold(t *testing.T) {
	no := sp(0, -1)
	for _, x := range []struct{ a, b, meet, join api.Span }{
		{sp(1, 5), sp(3, 9), sp(3, 5), sp(1, 9)},
		{sp(1, 9), sp(3, 5), sp(3, 5), sp(1, 9)},
		{sp(1, 3), sp(3, 5), sp(3, 3), sp(1, 5)},
		{sp(1, 2), sp(5, 6), no, sp(1, 6)},
		{sp(1, 2), sp(3, 4), no, sp(1, 4)},
		{sp(5, 1), sp(2, 3), no, sp(2, 3)},
		{sp(greatest, least), sp(2, 3), no, sp(2, 3)},
		{sp(5, 1), sp(9, 2), no, no},
		{no, no, no, no},
		{no, Whole(), no, Whole()},
		{sp(2, 3), Whole(), sp(2, 3), Whole()},
		{sp(least, least), sp(greatest, greatest), no, Whole()},
	} {
		if got, back := Meet(x.a, x.b), Meet(x.b, x.a); got != x.meet || back != x.meet {
			t.Errorf("Meet of %v and %v is %v, %v", x.a, x.b, got, back)
		}
		if got, back := Join(x.a, x.b), Join(x.b, x.a); got != x.join || back != x.join {
			t.Errorf("Join of %v and %v is %v, %v", x.a, x.b, got, back)
		}
	}
	if Whole() != sp(least, greatest) {
		t.Error("Whole", Whole())
	}
}

// P1.4: Meet has just the numbers of both, Join those of each, and its ends are ends of one of them.
func TestMeetAndJoinByTheirNumbers(t *testing.T) {
	for _, a := range edgeSpans() {
		for _, b := range edgeSpans() {
			meet, join := Meet(a, b), Join(a, b)
			for _, n := range edges() {
				if Has(meet, n) != (Has(a, n) && Has(b, n)) {
					t.Fatalf("Meet(%v, %v) is %v: %d", a, b, meet, n)
				}
				if (Has(a, n) || Has(b, n)) && !Has(join, n) {
					t.Fatalf("Join(%v, %v) is %v: %d", a, b, join, n)
				}
			}
			for _, s := range []api.Span{meet, join} {
				if s.Lo > s.Hi && s != sp(0, -1) {
					t.Fatalf("of %v and %v: none as %v", a, b, s)
				}
			}
			if join == sp(0, -1) {
				continue
			}
			if !Has(a, join.Lo) && !Has(b, join.Lo) || !Has(a, join.Hi) && !Has(b, join.Hi) {
				t.Fatalf("Join(%v, %v) is %v: not the least", a, b, join)
			}
		}
	}
}
