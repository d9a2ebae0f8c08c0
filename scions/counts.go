package scions

import "pippin/api"

// counts is how often each sort is given.
type counts [api.MaxScionSorts]int

// number is what is asked of the counts of gifts to compare them: 0 if nothing is given, and never less.
type number func(c counts) int

// sum returns how many scions are given.
func (c counts) sum() int {
	sum := 0
	for _, often := range c {
		sum += often
	}
	return sum
}

// safe returns how many sorts are safe.
func (c counts) safe() int {
	many := 0
	for _, often := range c {
		if often >= 2 {
			many++
		}
	}
	return many
}

// rank returns a number that is greater the better the counts are.
func (c counts) rank() int {
	rank := 0
	for _, often := range c {
		// one scion more of a rarer sort counts more than all there can be of those behind it
		rank = rank*(api.MaxScions+1) + often
	}
	return rank
}

// often returns the number that says how often a sort is given.
func often(sort int) number {
	return func(c counts) int { return c[sort] }
}
