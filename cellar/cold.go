package cellar

import (
	"iter"
	"slices"

	"pippin/api"
)

// colds yields all lists of lots in the cold room, those with the fewest lots first, and of these the least one. Each is a list of its own.
func colds(c api.Cellar) iter.Seq[[]int] {
	return func(yield func(cold []int) bool) {
		for many := range c.Room + 1 {
			if !lengthen(nil, many, len(c.Lots), yield) {
				return
			}
		}
	}
}

// lengthen yields the lists that begin as the given one and have so many lots more, of so many that there are, and reports whether it should go on.
func lengthen(begun []int, more, lots int, yield func(cold []int) bool) bool {
	if more == 0 {
		return yield(begun)
	}
	at, first := len(begun), 0
	if at > 0 {
		first = begun[at-1] + 1
	}
	for lot := first; lot < lots; lot++ {
		// the three indexes make append copy: lists that begin alike do not share memory
		if !lengthen(append(begun[:at:at], lot), more-1, lots, yield) {
			return false
		}
	}
	return true
}

// reach returns the greatest worth with any lots in the cold room, and all lists with which it is reached, in their order.
func reach(c api.Cellar) (int, [][]int) {
	greatest := 0
	var lists [][]int
	for cold := range colds(c) {
		worth := newStore(c, cold).greatest()
		if worth > greatest {
			greatest, lists = worth, nil
		}
		if worth == greatest {
			lists = append(lists, cold)
		}
	}
	return greatest, lists
}

// common returns the lots that are in all of several lists.
func common(lists [][]int) []int {
	var lots []int
	for _, lot := range lists[0] {
		lacks := func(cold []int) bool { return !slices.Contains(cold, lot) }
		if !slices.ContainsFunc(lists, lacks) {
			lots = append(lots, lot)
		}
	}
	return lots
}
