package keys

import (
	"slices"

	"pippin/api"
)

// search looks for the key that costs least for a group: a cube of fruits whose ends are to be the same, or a set of sorts that are to be named.
type search[G comparable] struct {
	marks int
	// done tells whether nothing has to be asked of a group any more.
	done func(group G) bool
	// parts parts a group by the values of a mark.
	parts func(group G, mark int) []G
	// cost is that of a question, and of what follows it, if its parts cost so much.
	cost func(group G, parts []int) int
	// found is what groups cost that were looked at before.
	found map[G]int
}

// least returns what the best key of a group costs.
func (s search[G]) least(group G) int {
	if cost, known := s.found[group]; known {
		return cost
	}
	cost := 0
	if !s.done(group) {
		_, cost = s.question(group)
	}
	s.found[group] = cost
	return cost
}

// question returns the mark to ask for first, and what the key costs then. It passes over marks that leave the group in one part: to ask for them only costs more.
func (s search[G]) question(group G) (mark, cost int) {
	mark = api.KeyNone
	for other := range s.marks {
		parts := s.parts(group, other)
		if slices.Contains(parts, group) {
			continue
		}
		var costs []int
		for _, part := range parts {
			costs = append(costs, s.least(part))
		}
		if sum := s.cost(group, costs); mark == api.KeyNone || sum < cost {
			mark, cost = other, sum
		}
	}
	return mark, cost
}

// worst counts the questions of the longest walk.
func worst[G any](_ G, parts []int) int {
	return 1 + slices.Max(parts)
}

// total counts the questions of all sorts: each of them has this one.
func total(sorts set, parts []int) int {
	sum := sorts.many()
	for _, part := range parts {
		sum += part
	}
	return sum
}

// searchEnds looks for keys with which the end of each fruit is the same as in a book.
func searchEnds(b api.KeyBook) search[cube] {
	return search[cube]{
		marks: len(b.Values),
		done:  func(fruits cube) bool { return fruits.oneEnd(b) },
		parts: func(fruits cube, mark int) []cube { return fruits.parts(mark, b.Values[mark]) },
		cost:  worst[cube],
		found: map[cube]int{},
	}
}

// searchNames looks for keys that name all sorts of a book, which all differ.
func searchNames(b api.KeyBook, cost func(sorts set, parts []int) int) search[set] {
	return search[set]{
		marks: len(b.Values),
		done:  func(sorts set) bool { return sorts.many() < 2 },
		parts: func(sorts set, mark int) []set { return partSorts(b, sorts, mark) },
		cost:  cost,
		found: map[set]int{},
	}
}
