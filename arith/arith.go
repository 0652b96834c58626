// Package arith is layer 1: numbers of 64 bits that wrap round, and spans of them (shared/doc/01-arith.md).
package arith

import "swath/api"

// signs has each operation's sign at its number; there is no operation 0.
var signs = [16]string{"", "+", "-", "*", "/", "%", "<<", ">>", "&", "|", "^", "<", "<=", "-", "!", "~"}

// Do answers what op makes of a and b, and a trap (0: none); a unary operation takes a alone: P1.1.
func Do(op int, a, b int64) (int64, int) {
	switch op {
	case api.OpNeg:
		a, b = 0, a
		fallthrough
	case api.OpSub:
		b = -b
		fallthrough
	case api.OpAdd:
		return a + b, 0
	case api.OpMul:
		return a * b, 0
	case api.OpDiv, api.OpRem:
		return divide(op, a, b)
	case api.OpShl:
		return a << shift(b), 0
	case api.OpShr:
		return a >> shift(b), 0
	case api.OpAnd:
		return a & b, 0
	case api.OpOr:
		return a | b, 0
	case api.OpFlip:
		b = -1
		fallthrough
	case api.OpXor:
		return a ^ b, 0
	case api.OpLe:
		if a == b {
			return 1, 0
		}
		fallthrough
	case api.OpLt:
		return truth(a < b), 0
	case api.OpNot:
		return truth(a == 0), 0
	}
	return 0, api.TrapType
}

// divide is apart from Do because quotients and rests alone can trap. The least number divided by -1
// needs no case of its own: the language says that it is itself, with rest 0.
func divide(op int, a, b int64) (int64, int) {
	if b == 0 {
		return 0, api.TrapDiv
	}
	if op == api.OpRem {
		return a % b, 0
	}
	return a / b, 0
}

func shift(b int64) uint64 {
	return uint64(b) & 63
}

func truth(yes bool) int64 {
	if yes {
		return 1
	}
	return 0
}

// Unary tells whether op takes one number: P1.2.
func Unary(op int) bool {
	return op >= api.OpNeg && op <= api.OpFlip
}

// Name answers op's sign; empty, if there is no such operation: P1.2.
func Name(op int) string {
	if op < 0 || op >= len(signs) {
		return ""
	}
	return signs[op]
}
