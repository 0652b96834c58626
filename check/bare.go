package check

import (
	"swath/api"
	"swath/tree"
)

// gone is the new number of a node that there is no more.
const gone = -1

// Bare is a tree without its hints: P8.3.
func Bare(l []api.Node) ([]api.Node, api.Errno) {
	if _, e := tree.Check(l); e != api.OK {
		return nil, e
	}
	var bare []api.Node
	numbers := make([]int, len(l))
	merges := ofMerges(l)
	for n, node := range l {
		switch {
		case merges[n]:
			numbers[n] = gone
		case node.Kind == api.NodePromote:
			// Its expression stands ahead of it, so what that has become is known, be it a promote itself.
			numbers[n] = numbers[node.Kids[0]]
		default:
			numbers[n] = len(bare)
			node.Kids = renumbered(node.Kids, numbers)
			bare = append(bare, node)
		}
	}
	return bare, api.OK
}

// ofMerges marks merges and the names within them.
func ofMerges(l []api.Node) []bool {
	marks := make([]bool, len(l))
	for n, node := range l {
		if node.Kind != api.NodeMerge {
			continue
		}
		marks[n] = true
		for _, k := range node.Kids {
			marks[k] = true
		}
	}
	return marks
}

// renumbered are those kids that are still there, by their new numbers.
func renumbered(kids, numbers []int) []int {
	var all []int
	for _, k := range kids {
		if numbers[k] != gone {
			all = append(all, numbers[k])
		}
	}
	return all
}
