package boxes

import (
	"iter"
	"slices"

	"pippin/api"
	"pippin/marks"
)

// tree tells which fruits are of a tree.
type tree [api.MaxMarkFruits]bool

// treesOf returns the trees of a parting, by their numbers.
func treesOf(parting []int) []tree {
	var trees []tree
	for fruit, number := range parting {
		if number == len(trees) {
			trees = append(trees, tree{})
		}
		trees[number][fruit] = true
	}
	return trees
}

// parter parts a valid box.
type parter struct {
	api.Box
	// found are the costs of the trees that were looked at before: many partings have the same trees.
	found map[tree][]int
}

func newParter(x api.Box) parter {
	return parter{x, map[tree][]int{}}
}

func (p parter) fruitsOf(t tree) [][]int {
	var fruits [][]int
	for fruit, seen := range p.Fruits {
		if t[fruit] {
			fruits = append(fruits, seen)
		}
	}
	return fruits
}

// costs returns how many values of the fruits of a tree are wrong at the least, sort by sort.
func (p parter) costs(t tree) []int {
	costs, known := p.found[t]
	if known {
		return costs
	}
	fruits := p.fruitsOf(t)
	for sort := range p.Book.Sorts {
		// there is no error, because the box is valid
		wrong, _ := marks.Wrong(p.Book, fruits, sort)
		costs = append(costs, wrong)
	}
	p.found[t] = costs
	return costs
}

// partings yields all partings that could be, whatever the Wrong of the book is, ascending. Each is a list of its own.
func (p parter) partings() iter.Seq[[]int] {
	return func(yield func(parting []int) bool) {
		// a tree has to be of a sort
		if len(p.Book.Sorts) > 0 || len(p.Fruits) == 0 {
			p.part(nil, 0, yield)
		}
	}
}

// part yields the partings that begin as the given one, which has so many trees, and reports whether it should go on.
func (p parter) part(begun []int, trees int, yield func(parting []int) bool) bool {
	fruit := len(begun)
	if fruit == len(p.Fruits) {
		return yield(begun)
	}
	for number := range min(trees+1, p.Trees) {
		// the three indexes make append copy: partings that begin alike do not share memory
		longer := append(begun[:fruit:fruit], number)
		if p.keepsTied(longer) && !p.part(longer, max(trees, number+1), yield) {
			return false
		}
	}
	return true
}

// keepsTied reports whether the last fruit of a parting is of the tree of those that are tied to it.
func (p parter) keepsTied(parting []int) bool {
	last := len(parting) - 1
	for _, pair := range p.Tied {
		if pair.B == last && parting[pair.A] != parting[last] {
			return false
		}
	}
	return true
}

// wrong returns the least number of wrong values of a parting that could be.
func (p parter) wrong(parting []int) int {
	sum := 0
	for _, t := range treesOf(parting) {
		sum += slices.Min(p.costs(t))
	}
	return sum
}

// best returns the parting with the fewest wrong values, and of these with the fewest trees, if any could be.
func (p parter) best() (best []int, fewest int, found bool) {
	for parting := range p.partings() {
		wrong := p.wrong(parting)
		fewer := len(treesOf(parting)) < len(treesOf(best))
		if !found || wrong < fewest || wrong == fewest && fewer {
			best, fewest, found = parting, wrong, true
		}
	}
	return best, fewest, found
}

// sorts yields the sorts that some trees can have together, tree by tree.
func (p parter) sorts(trees []tree) iter.Seq[[]int] {
	return func(yield func(sorts []int) bool) {
		p.choose(trees, nil, p.Book.Wrong, yield)
	}
}

// choose yields the sorts that begin with those that the first trees have, with so many values more that can be wrong, and reports whether it should go on.
func (p parter) choose(trees []tree, begun []int, left int, yield func(sorts []int) bool) bool {
	at := len(begun)
	if at == len(trees) {
		return yield(begun)
	}
	for sort, cost := range p.costs(trees[at]) {
		if cost <= left && !p.choose(trees, append(begun[:at:at], sort), left-cost, yield) {
			return false
		}
	}
	return true
}

// truths yields of each truth the parting, and the sorts of its trees.
func (p parter) truths() iter.Seq2[[]int, []int] {
	return func(yield func(parting, sorts []int) bool) {
		for parting := range p.partings() {
			for sorts := range p.sorts(treesOf(parting)) {
				if !yield(parting, sorts) {
					return
				}
			}
		}
	}
}
