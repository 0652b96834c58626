package snap

import (
	"slices"

	"swath/api"
)

// linkKey is a link with the number of its list of registers instead of that: such as can be looked up.
type linkKey struct {
	up   int
	fn   int
	pc   int
	into int
	regs int
}

// listKey is a list of registers: the number of the list without the last one, and that one.
type listKey struct {
	ahead int
	last  api.Src
}

// alive tells whether New made the book.
func (b *Book) alive() bool {
	return b != nil && b.numbers != nil
}

// number is that of the link with these fields, which is added if it isn't there.
func (b *Book) number(x api.Link) int {
	k := linkKey{up: x.Up, fn: x.Fn, pc: x.Pc, into: x.Into, regs: b.list(x.Regs)}
	n, is := b.numbers[k]
	if !is {
		n = len(b.links)
		b.numbers[k] = n
		x.Regs = slices.Clone(x.Regs)
		b.links = append(b.links, x)
	}
	return n
}

// list is the number of a list of registers.
func (b *Book) list(regs []api.Src) int {
	n := 0
	for _, s := range regs {
		k := listKey{ahead: n, last: s}
		if _, is := b.lists[k]; !is {
			b.lists[k] = len(b.lists) + 1
		}
		n = b.lists[k]
	}
	return n
}
