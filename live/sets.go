package live

import (
	"iter"
	"math/bits"
)

// Registers from most on never count, so that a set of them has as many words for every function.
const (
	most     = 1000
	wordSize = 64
)

// set is a set of registers, a bit for each.
type set [(most + wordSize - 1) / wordSize]uint64

func (s set) has(register int) bool {
	return register >= 0 && register < most && s[register/wordSize]>>(register%wordSize)&1 == 1
}

// add puts a register that counts into a set.
func (s *set) add(register int) {
	s[register/wordSize] |= 1 << (register % wordSize)
}

// without is a set less one register, if that is in it.
func (s set) without(register int) set {
	if s.has(register) {
		s[register/wordSize] &^= 1 << (register % wordSize)
	}
	return s
}

// joined has what is in one of two sets.
func (s set) joined(other set) set {
	for at, word := range other {
		s[at] |= word
	}
	return s
}

// registers tells what is in a set, rising.
func (s set) registers() iter.Seq[int] {
	return func(yield func(int) bool) {
		for at, word := range s {
			for ; word != 0; word &= word - 1 {
				if !yield(at*wordSize + bits.TrailingZeros64(word)) {
					return
				}
			}
		}
	}
}
