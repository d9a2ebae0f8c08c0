package gardens

import (
	"cmp"
	"slices"

	"pippin/api"
)

// between reports whether a number is from a least one to a greatest one.
func between(number, least, greatest int) bool {
	return least <= number && number <= greatest
}

// within reports whether a number is one of so many things that are counted from 0.
func within(number, many int) bool {
	return 0 <= number && number < many
}

// ascending reports whether each element of a list comes behind the one before it.
func ascending[T any](list []T, compare func(a, b T) int) bool {
	for at := 1; at < len(list); at++ {
		if compare(list[at-1], list[at]) >= 0 {
			return false
		}
	}
	return true
}

// compareTrees orders trees by their sorts, and those of one sort by their gardens.
func compareTrees(a, b api.GardenTree) int {
	return cmp.Or(cmp.Compare(a.Sort, b.Sort), cmp.Compare(a.Garden, b.Garden))
}

func validBook(b api.GardenBook) bool {
	if !between(b.Sorts, 0, api.MaxGardenSorts) || len(b.Costs) > api.MaxGardens || len(b.Losses) > api.MaxGardenLosses {
		return false
	}
	wrongCost := func(cost int) bool { return !between(cost, 1, api.MaxGardenCost) }
	wrongTree := func(t api.GardenTree) bool { return !within(t.Sort, b.Sorts) || !within(t.Garden, len(b.Costs)) }
	wrongLoss := func(loss []int) bool { return !validLoss(loss, len(b.Costs)) }
	if slices.ContainsFunc(b.Costs, wrongCost) || slices.ContainsFunc(b.Trees, wrongTree) || slices.ContainsFunc(b.Losses, wrongLoss) {
		return false
	}
	return ascending(b.Trees, compareTrees)
}

// validLoss reports whether a list is a loss of a book with so many gardens.
func validLoss(loss []int, gardens int) bool {
	return len(loss) > 0 && areWithin(loss, gardens) && ascending(loss, cmp.Compare)
}

// areWithin reports whether all numbers are ones of so many things.
func areWithin(numbers []int, many int) bool {
	return !slices.ContainsFunc(numbers, func(number int) bool { return !within(number, many) })
}
