package lex

import (
	"math"
	"strings"
)

// quoted is how many bytes a number between quotes has.
const quoted = 3

// Number is the number that s is as a whole: P4.3.
func Number(s string) (int64, bool) {
	if len(s) == quoted && s[0] == '\'' && s[2] == '\'' {
		return byteNumber(s[1])
	}
	if digits, ok := strings.CutPrefix(s, "0x"); ok {
		return value(digits, 16)
	}
	return value(s, 10)
}

func byteNumber(c byte) (int64, bool) {
	if c < 32 || c > 126 {
		return 0, false
	}
	return int64(c), true
}

// value is the number that those digits are by a base, if there are any and it isn't too great.
func value(digits string, base int64) (int64, bool) {
	n := int64(0)
	for i := range len(digits) {
		d := digitOf(digits[i])
		// Asked ahead of the sum, which would wrap round.
		if d >= base || n > (math.MaxInt64-d)/base {
			return 0, false
		}
		n = n*base + d
	}
	return n, digits != ""
}

// digitOf is a digit's number; 16 of what is none by any base that there is.
func digitOf(c byte) int64 {
	switch {
	case '0' <= c && c <= '9':
		return int64(c - '0')
	case 'a' <= c && c <= 'f':
		return int64(c-'a') + 10
	case 'A' <= c && c <= 'F':
		return int64(c-'A') + 10
	}
	return 16
}
