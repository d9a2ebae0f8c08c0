package gardens

import (
	"maps"
	"slices"
)

// costs is what it costs to make each sort safe. It does not have those that no grafts make safe.
type costs map[int]int

func (l land) costs() costs {
	all := costs{}
	for sort := range l.Sorts {
		if gardens, found := l.plan(sort); found {
			all[sort] = l.price(gardens)
		}
	}
	return all
}

// sorts returns all that can be made safe, ascending.
func (c costs) sorts() []int {
	return slices.Sorted(maps.Keys(c))
}

// of returns what it costs to make some of them safe.
func (c costs) of(sorts []int) int {
	sum := 0
	for _, sort := range sorts {
		sum += c[sort]
	}
	return sum
}

// sum returns what it costs to make all sorts safe, if that can be.
func (l land) sum() (int, bool) {
	all := l.costs()
	return all.of(all.sorts()), len(all) == l.Sorts
}

// saves returns the first of the longest lists of sorts that can be safe for an amount of money.
func (l land) saves(money int) []int {
	all := l.costs()
	var best []int
	for _, sorts := range parts(all.sorts()) {
		better := len(sorts) > len(best) || len(sorts) == len(best) && slices.Compare(sorts, best) < 0
		if better && all.of(sorts) <= money {
			best = sorts
		}
	}
	return best
}

// parts returns each list that has some elements of a list, in their order, and the empty one first.
func parts(list []int) [][]int {
	all := [][]int{nil}
	for _, element := range list {
		for _, part := range all {
			all = append(all, append(slices.Clone(part), element))
		}
	}
	return all
}
