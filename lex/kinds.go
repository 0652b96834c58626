package lex

// What a byte may be. Bytes with which signs begin are none of these: the signs themselves tell them.
const (
	other = iota
	blank
	letter // _ too
	digit
	quote
)

// kinds has what each byte is at its number; those that it has no room for are all other ones.
var kinds = [128]uint8{
	' ': blank, '\t': blank, '\n': blank, '\r': blank,
	'\'': quote,
	'0':  digit, '1': digit, '2': digit, '3': digit, '4': digit, '5': digit, '6': digit, '7': digit, '8': digit, '9': digit,
	'a': letter, 'b': letter, 'c': letter, 'd': letter, 'e': letter, 'f': letter, 'g': letter, 'h': letter, 'i': letter,
	'j': letter, 'k': letter, 'l': letter, 'm': letter, 'n': letter, 'o': letter, 'p': letter, 'q': letter, 'r': letter,
	's': letter, 't': letter, 'u': letter, 'v': letter, 'w': letter, 'x': letter, 'y': letter, 'z': letter,
	'A': letter, 'B': letter, 'C': letter, 'D': letter, 'E': letter, 'F': letter, 'G': letter, 'H': letter, 'I': letter,
	'J': letter, 'K': letter, 'L': letter, 'M': letter, 'N': letter, 'O': letter, 'P': letter, 'Q': letter, 'R': letter,
	'S': letter, 'T': letter, 'U': letter, 'V': letter, 'W': letter, 'X': letter, 'Y': letter, 'Z': letter,
	'_': letter,
}

// signs stand longest first, so that the first one that fits is the longest.
var signs = [26]string{
	"<<", ">>", "==", "!=", "<=",
	"(", ")", "{", "}", "[", "]", ",", ";", ".", "=", "+", "-", "*", "/", "%", "&", "|", "^", "<", "!", "~",
}

func kindOf(c byte) uint8 {
	if int(c) >= len(kinds) {
		return other
	}
	return kinds[c]
}

// signLength is how many bytes the longest sign with which s begins has; 0, if it begins with none.
func signLength(s string) int {
next:
	for _, sign := range signs {
		for i := range len(sign) {
			if i == len(s) || s[i] != sign[i] {
				continue next
			}
		}
		return len(sign)
	}
	return 0
}

// runEnd is the first place from at on where neither a letter nor a digit stands.
func runEnd(s string, at int) int {
	for at < len(s) && (kindOf(s[at]) == letter || kindOf(s[at]) == digit) {
		at++
	}
	return at
}

func isWord(s string) bool {
	switch s {
	case "rec", "fn", "let", "if", "else", "while", "return", "out", "stop", "merge", "promote",
		"new", "arr", "len", "in", "img", "size", "null", "root":
		return true
	}
	return false
}

// Name tells whether s is a name: P4.3.
func Name(s string) bool {
	return s != "" && kindOf(s[0]) == letter && runEnd(s, 0) == len(s) && !isWord(s)
}
