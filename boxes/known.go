package boxes

import (
	"slices"

	"pippin/api"
)

// together counts the partings in which two fruits are of one tree.
func together(partings [][]int, one, other int) int {
	many := 0
	for _, parting := range partings {
		if parting[one] == parting[other] {
			many++
		}
	}
	return many
}

// ask returns the first two fruits that leave the fewest of several partings at the worst. Some two leave fewer than all, because the partings differ.
func ask(partings [][]int) api.BoxPair {
	var best api.BoxPair
	fewest, fruits := len(partings), len(partings[0])
	for a := range fruits {
		for b := a + 1; b < fruits; b++ {
			many := together(partings, a, b)
			if left := max(many, len(partings)-many); left < fewest {
				best, fewest = api.BoxPair{A: a, B: b}, left
			}
		}
	}
	return best
}

// kinds counts the different ones of some sorts: each of them where it comes first.
func kinds(sorts []int) int {
	many := 0
	for at, sort := range sorts {
		if slices.Index(sorts, sort) == at {
			many++
		}
	}
	return many
}
