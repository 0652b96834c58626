package ir

import "swath/api"

// The columns of the chapter's table, by the instructions' numbers; row 0 is that of an Op that is none.
// Among fields a c is a C that is a cell's number, not a register.
var (
	names = [29]string{"?", "num", "null", "move", "bin", "un", "eq", "ne", "get", "put", "elem", "setelem", "len", "new", "arr",
		"in", "out", "img", "size", "root", "setroot", "jump", "zero", "call", "ret", "stop", "step", "merge", "promote"}
	fields = [29]string{"", "AK", "A", "AB", "ABCK", "ABK", "ABC", "ABC", "ABcK", "ABcK", "ABC", "ABC", "AB", "AcK", "AB",
		"A", "A", "AB", "A", "A", "A", "K", "AK", "AKL", "A", "A", "", "KL", "AB"}
	reads = [29]string{"", "", "", "B", "BC", "B", "BC", "BC", "B", "AB", "BC", "ABC", "B", "", "B",
		"", "A", "B", "", "", "A", "", "A", "L", "A", "A", "", "L", "B"}
	writes = [29]string{"", "A", "A", "A", "A", "A", "A", "A", "A", "", "A", "", "A", "A", "A",
		"A", "", "A", "A", "A", "", "", "", "A", "", "", "", "", "A"}
)

// row is where an Op stands in the table.
func row(op int) int {
	if op < api.InsNum || op > api.InsPromote {
		return 0
	}
	return op
}

// registers are those that an instruction's fields of these letters name, in that order.
func registers(i api.Ins, letters string) []int {
	var l []int
	for _, letter := range letters {
		switch letter {
		case 'A':
			l = append(l, i.A)
		case 'B':
			l = append(l, i.B)
		case 'C':
			l = append(l, i.C)
		case 'L':
			l = append(l, i.L...)
		}
	}
	return l
}

// without is an instruction with its fields of these letters emptied.
func without(i api.Ins, letters string) api.Ins {
	for _, letter := range letters {
		switch letter {
		case 'A':
			i.A = 0
		case 'B':
			i.B = 0
		case 'C', 'c':
			i.C = 0
		case 'K':
			i.K = 0
		case 'L':
			i.L = nil
		}
	}
	return i
}
