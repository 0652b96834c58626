package heap

import "swath/api"

// thing is what a Ref stands for: an array or a record.
type thing interface {
	view() []api.Value
}

type array struct {
	cells []api.Value
}

type record struct {
	array
	sort int
}

// view ends where the cells end, so that nobody who appends to it writes behind them.
func (a *array) view() []api.Value {
	n := len(a.cells)
	return a.cells[:n:n]
}

// laid is a thing that keeps those cells.
func laid(rec int, cells []api.Value) thing {
	if rec < 0 {
		return &array{cells}
	}
	return &record{array{cells}, rec}
}

// sortOf is a record's sort, and -1 of an array.
func sortOf(t thing) int {
	switch t := t.(type) {
	case *record:
		return t.sort
	default:
		return -1
	}
}

// copied are the same values in new memory.
func copied(cells []api.Value) []api.Value {
	l := make([]api.Value, len(cells))
	copy(l, cells)
	return l
}
