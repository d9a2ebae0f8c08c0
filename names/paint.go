package names

import (
	"maps"

	"pippin/api"
)

// canHave has, at the place of each sort, the names that can have it.
type canHave []map[int]bool

// anyOf lets each name have each of so many sorts.
func (o office) anyOf(sorts int) canHave {
	can := make(canHave, sorts)
	for sort := range can {
		can[sort] = map[int]bool{}
		for name := range o.Names {
			can[sort][name] = true
		}
	}
	return can
}

// give returns what names can still have if one of them has a sort.
func (o office) give(can canHave, name, sort int) canHave {
	left := make(canHave, len(can))
	for number, names := range can {
		left[number] = maps.Clone(names)
		refused := api.Surely
		if number == sort {
			refused = api.Never
		}
		for other := range o.Names {
			if o.says(name, other) == refused {
				delete(left[number], other)
			}
		}
	}
	return left
}

// paint returns the sorts of all names, if the others can have some when the first ones have the given ones, so many of which are in use.
func (o office) paint(begun []int, used int, can canHave) ([]int, bool) {
	name := len(begun)
	if name == o.Names {
		return begun, true
	}
	// of the sorts that no name has yet each would do as well as the first
	for sort := range min(used+1, len(can)) {
		if !can[sort][name] {
			continue
		}
		longer, left := append(begun, sort), o.give(can, name, sort)
		if sorts, painted := o.paint(longer, max(used, sort+1), left); painted {
			return sorts, true
		}
	}
	return nil, false
}

// fewest returns the sorts of all names in a reading with the fewest sorts, and how many these are.
func (o office) fewest() ([]int, int) {
	// this ends, because each name can have a sort of its own, or that of the names that are one with it
	for many := 0; ; many++ {
		if sorts, painted := o.paint(nil, 0, o.anyOf(many)); painted {
			return sorts, many
		}
	}
}
