package names

import (
	"slices"

	"pippin/api"
)

// unknown yields the pairs of names that can be one or two: the least A first, and of these the least B.
func (o office) unknown(yield func(pair api.NamePair) bool) {
	for a := range o.Names {
		for b := a + 1; b < o.Names; b++ {
			if o.says(a, b) == api.Perhaps && !yield(api.NamePair{A: a, B: b}) {
				return
			}
		}
	}
}

// open counts these pairs.
func (o office) open() int {
	many := 0
	for range o.unknown {
		many++
	}
	return many
}

// after counts these pairs with one more letter, which may be one more than a book can have, at the worst.
func (o office) after(a, c int) int {
	most := 0
	for same := range 2 {
		more := o.NameBook
		more.Letters = slices.Concat(o.Letters, []api.NameLetter{{A: a, B: c, Same: same}})
		if next := newOffice(more); !next.clashes() {
			most = max(most, next.open())
		}
	}
	return most
}

// next returns the first of these pairs with which the fewest are left, if there are any.
func (o office) next() (api.NamePair, bool) {
	var best api.NamePair
	fewest, found := 0, false
	for pair := range o.unknown {
		if left := o.after(pair.A, pair.B); !found || left < fewest {
			best, fewest, found = pair, left, true
		}
	}
	return best, found
}
