package arith

import (
	"math"

	"swath/api"
)

// Whole is the span of all numbers: P1.4.
func Whole() api.Span {
	return api.Span{Lo: math.MinInt64, Hi: math.MaxInt64}
}

func none() api.Span {
	return api.Span{Lo: 0, Hi: -1}
}

func just(n int64) api.Span {
	return api.Span{Lo: n, Hi: n}
}

// tidy makes all spans without a number one and the same, so that spans can be compared.
func tidy(s api.Span) api.Span {
	if s.Lo > s.Hi {
		return none()
	}
	return s
}

// Has tells whether n is in s: P1.3.
func Has(s api.Span, n int64) bool {
	return s.Lo <= n && n <= s.Hi
}

// Meet is the numbers that are in both: P1.4.
func Meet(a, b api.Span) api.Span {
	return tidy(api.Span{Lo: max(a.Lo, b.Lo), Hi: min(a.Hi, b.Hi)})
}

// Join is the least span that has both: P1.4.
func Join(a, b api.Span) api.Span {
	a, b = tidy(a), tidy(b)
	if a == none() {
		return b
	}
	if b == none() {
		return a
	}
	return api.Span{Lo: min(a.Lo, b.Lo), Hi: max(a.Hi, b.Hi)}
}

// Spans is a span that has whatever op makes of a number of a and one of b: P1.3.
func Spans(op int, a, b api.Span) api.Span {
	a, b = tidy(a), tidy(b)
	if Name(op) == "" || a == none() || !Unary(op) && b == none() {
		return none()
	}
	if a == just(a.Lo) && b == just(b.Lo) {
		if n, trap := Do(op, a.Lo, b.Lo); trap == 0 {
			return just(n)
		}
	}
	switch op {
	case api.OpAdd, api.OpSub, api.OpMul:
		return ofEnds(op, a, b)
	case api.OpLe, api.OpLt:
		return compared(op, a, b)
	case api.OpNeg:
		return turned(a)
	case api.OpNot:
		return denied(a)
	case api.OpAnd:
		return masked(a, b)
	case api.OpRem:
		return rests(a, b)
	}
	return Whole()
}

// ofEnds goes from the least to the greatest of what op makes of the ends: between them sums, differences
// and products have no greater and no lesser one, unless one wraps round.
func ofEnds(op int, a, b api.Span) api.Span {
	s := none()
	for _, x := range [2]int64{a.Lo, a.Hi} {
		for _, y := range [2]int64{b.Lo, b.Hi} {
			n, _ := Do(op, x, y)
			if wraps(op, x, y, n) {
				return Whole()
			}
			s = Join(s, just(n))
		}
	}
	return s
}

// wraps tells whether n, which a product, a difference or a sum made of a and b, is another number than
// without wrapping round.
func wraps(op int, a, b, n int64) bool {
	switch op {
	case api.OpMul:
		// Of the least number the quotient by -1 would wrap round too, and tell nothing.
		if a == -1 {
			return b == math.MinInt64
		}
		return a != 0 && n/a != b
	case api.OpSub:
		// n is a less b just where a is n and b together.
		a, n = n, a
		fallthrough
	default:
		return (n >= a) != (b >= 0)
	}
}

// compared asks op of the ends that make it hardest, then of those that make it easiest.
func compared(op int, a, b api.Span) api.Span {
	lo, _ := Do(op, a.Hi, b.Lo)
	hi, _ := Do(op, a.Lo, b.Hi)
	return api.Span{Lo: lo, Hi: hi}
}

func turned(a api.Span) api.Span {
	if a.Lo == math.MinInt64 {
		return Whole()
	}
	return api.Span{Lo: -a.Hi, Hi: -a.Lo}
}

func denied(a api.Span) api.Span {
	if a == just(0) {
		return just(1)
	}
	if !Has(a, 0) {
		return just(0)
	}
	return api.Span{Lo: 0, Hi: 1}
}

func masked(a, b api.Span) api.Span {
	if a.Lo < 0 || b.Lo < 0 {
		return Whole()
	}
	return api.Span{Lo: 0, Hi: min(a.Hi, b.Hi)}
}

func rests(a, b api.Span) api.Span {
	if b != just(b.Lo) || b.Lo <= 0 {
		return Whole()
	}
	if a.Lo >= 0 {
		return api.Span{Lo: 0, Hi: b.Lo - 1}
	}
	return api.Span{Lo: 1 - b.Lo, Hi: b.Lo - 1}
}
