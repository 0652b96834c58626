package iso

import "iter"

// waiting tells what waits, one by one, till nothing is left. What is added meanwhile comes ahead of the rest:
// so things are gone through depth first without calls within one another, which deep chains would pile up.
func waiting[T any]() (add func([]T), all iter.Seq[T]) {
	var lists [][]T
	add = func(l []T) {
		if len(l) > 0 {
			lists = append(lists, l)
		}
	}
	all = func(yield func(T) bool) {
		for len(lists) > 0 {
			last := len(lists) - 1
			next := lists[last][0]
			lists[last] = lists[last][1:]
			// It goes ahead of what comes of next, or a chain by last cells would leave a list a thing.
			if len(lists[last]) == 0 {
				lists = lists[:last]
			}
			if !yield(next) {
				return
			}
		}
	}
	return add, all
}
