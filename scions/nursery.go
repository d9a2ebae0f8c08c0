package scions

import (
	"slices"

	"pippin/api"
)

// nursery has a valid list, but that a garden may have one place more than it can.
type nursery struct {
	api.ScionList
}

// enter returns the nursery of a valid list.
func enter(l api.ScionList) (nursery, api.Errno) {
	if !validList(l) {
		return nursery{}, api.ErrScion
	}
	return nursery{l}, api.OK
}

// enterAsked does so if the sort or the garden that is asked for is one of so many.
func enterAsked(l api.ScionList, asked, many int) (nursery, api.Errno) {
	n, e := enter(l)
	if e == api.OK && !within(asked, many) {
		return nursery{}, api.ErrArg
	}
	return n, e
}

// enterGift does so if a gift is one of the list, whether it fits or not.
func enterGift(l api.ScionList, gift []int) (nursery, api.Errno) {
	n, e := enter(l)
	if e == api.OK && !validGift(l, gift) {
		return nursery{}, api.ErrArg
	}
	return n, e
}

func (n nursery) withPlace(garden int) nursery {
	n.Gardens = slices.Clone(n.Gardens)
	n.Gardens[garden].Places++
	return n
}

// without returns the nursery without the wants of a garden.
func (n nursery) without(garden int) nursery {
	n.Wants = slices.DeleteFunc(slices.Clone(n.Wants), func(w api.ScionWant) bool { return w.Garden == garden })
	return n
}

// most returns the greatest number that is asked for, of all gifts that fit.
func (n nursery) most(asked number) int {
	_, c := n.best(asked)
	return asked(c)
}

// weak returns the gardens without which fewer sorts would be safe.
func (n nursery) weak() []int {
	var gardens []int
	safe := n.most(counts.safe)
	for garden := range n.Gardens {
		if n.without(garden).most(counts.safe) < safe {
			gardens = append(gardens, garden)
		}
	}
	return gardens
}
