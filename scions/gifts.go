package scions

import (
	"iter"

	"pippin/api"
)

// given is what a gift that fits gives: how often each sort, how many scions to each garden, and which sorts to gardens of which frosts.
type given struct {
	counts
	gardens [api.MaxScionGardens]int
	frosts  [api.MaxScionSorts][api.MaxFrosts]bool
}

// add returns what is given with one more want, if the gift fits with it.
func (n nursery) add(g given, want int) (given, bool) {
	w := n.Wants[want]
	garden := n.Gardens[w.Garden]
	if g.counts[w.Sort] == n.Scions[w.Sort] || g.gardens[w.Garden] == garden.Places || g.frosts[w.Sort][garden.Frost] {
		return given{}, false
	}
	g.counts[w.Sort]++
	g.gardens[w.Garden]++
	g.frosts[w.Sort][garden.Frost] = true
	return g, true
}

// give returns what a gift gives, if it fits.
func (n nursery) give(gift []int) (given, bool) {
	var g given
	for _, want := range gift {
		more, fits := n.add(g, want)
		if !fits {
			return given{}, false
		}
		g = more
	}
	return g, true
}

// lost returns the sorts that are given, and all of which a frost takes. What fits gives it at most one scion of each.
func (g given) lost(frost int) []int {
	var sorts []int
	for sort, often := range g.counts {
		if often == 1 && g.frosts[sort][frost] {
			sorts = append(sorts, sort)
		}
	}
	return sorts
}

// gifts yields all gifts that fit, and their counts. Each gift is a list of its own.
func (n nursery) gifts() iter.Seq2[[]int, counts] {
	return func(yield func(gift []int, c counts) bool) {
		n.lengthen(nil, given{}, yield)
	}
}

// lengthen yields the gifts that begin as one that fits, and reports whether it should go on. It passes over those that begin as one that does not: no longer one fits then.
func (n nursery) lengthen(begun []int, g given, yield func(gift []int, c counts) bool) bool {
	if !yield(begun, g.counts) {
		return false
	}
	at, first := len(begun), 0
	if at > 0 {
		first = begun[at-1] + 1
	}
	for want := first; want < len(n.Wants); want++ {
		more, fits := n.add(g, want)
		// the three indexes make append copy: gifts that begin alike do not share memory
		if fits && !n.lengthen(append(begun[:at:at], want), more, yield) {
			return false
		}
	}
	return true
}

// best returns the first gift that fits with the greatest number that is asked for, and its counts.
func (n nursery) best(asked number) ([]int, counts) {
	// nothing is given to begin with, which fits
	var best []int
	var most counts
	for gift, c := range n.gifts() {
		if asked(c) > asked(most) {
			best, most = gift, c
		}
	}
	return best, most
}
