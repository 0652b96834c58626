package trace

import "swath/api"

// open is how many arguments an operation has that may have any number, and one that is none.
const open = -1

// row is what the chapter's table says of an operation: its name, how many arguments it has, whether it makes a value, whether a
// trace may be left at it.
type row struct {
	name  string
	args  int
	makes bool
	may   bool
}

// table has each operation's row at its number; a row without a name is that of no operation.
var table = [36]row{
	api.InsBin:     {"bin", 2, true, true},
	api.InsUn:      {"un", 1, true, true},
	api.InsEq:      {"eq", 2, true, false},
	api.InsNe:      {"ne", 2, true, false},
	api.InsGet:     {"get", 1, true, true},
	api.InsPut:     {"put", 2, false, true},
	api.InsElem:    {"elem", 2, true, true},
	api.InsSetElem: {"setelem", 3, false, true},
	api.InsLen:     {"len", 1, true, true},
	api.InsNew:     {"new", 0, true, true},
	api.InsArr:     {"arr", 1, true, true},
	api.InsIn:      {"in", 0, true, false},
	api.InsOut:     {"out", 1, false, true},
	api.InsImg:     {"img", 1, true, true},
	api.InsRoot:    {"root", 0, true, false},
	api.InsSetRoot: {"setroot", 1, false, false},
	api.InsStep:    {"step", 0, false, true},
	api.OpYes:      {"yes", 1, false, true},
	api.OpNo:       {"no", 1, false, true},
	api.OpIs:       {"is", 2, false, true},
	api.OpDepth:    {"depth", 0, false, true},
	api.OpCharge:   {"charge", 0, false, true},
	api.OpLay:      {"lay", open, true, false},
}

// rowOf is an operation's row, and that of none for all other numbers.
func rowOf(op int) row {
	if !known(op) {
		return row{name: "?", args: open}
	}
	return table[op]
}

// known tells whether the table has an operation.
func known(op int) bool {
	return op >= 0 && op < len(table) && table[op].name != ""
}

// The bounds that the chapter gives as numbers.
const (
	maxSort  = 1000
	maxCell  = 1000
	maxCount = 1000000
	maxArgs  = 1000
	maxRegs  = 1000
	maxCells = 1000
	maxInput = 999
)

// kBounds are the least and the greatest K that an operation may have: 0, where the table has none.
func kBounds(op int) (int64, int64) {
	switch op {
	case api.InsBin:
		return api.OpAdd, api.OpLe
	case api.InsUn:
		return api.OpNeg, api.OpFlip
	case api.InsGet, api.InsPut, api.InsNew, api.OpLay:
		return 0, maxSort
	case api.OpDepth, api.OpCharge:
		return 0, maxCount
	}
	return 0, 0
}

// cBound is the greatest C that an operation may have: 0, where the table has none.
func cBound(op int) int {
	switch op {
	case api.InsGet, api.InsPut, api.InsNew:
		return maxCell
	}
	return 0
}
