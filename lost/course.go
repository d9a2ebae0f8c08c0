package lost

import (
	"slices"

	"pippin/api"
)

// tree was planted in a garden in a year. It came there by a chain of gifts, which is as short as any.
type tree struct {
	garden, year int
	chain        []int
}

// course is how it can have been: which gifts took, and the trees that came of it.
type course struct {
	took  [api.MaxLostGifts]bool
	trees []tree
}

// begun returns how it is before any gift.
func (s search) begun() course {
	var c course
	for _, garden := range s.First {
		c.trees = append(c.trees, tree{garden: garden})
	}
	return c
}

// last returns the last year in which a tree stands.
func (s search) last(t tree) int {
	return t.year + s.Lives - 1
}

func (s search) isIn(t tree, garden, year int) bool {
	return t.garden == garden && between(year, t.year, s.last(t))
}

// stands reports whether the sort stands in a garden in a year.
func (s search) stands(c course, garden, year int) bool {
	return slices.ContainsFunc(c.trees, func(t tree) bool { return s.isIn(t, garden, year) })
}

// gardens returns all gardens in which the sort stands in a year.
func (s search) gardens(c course, year int) []int {
	var gardens []int
	for garden := range s.Gardens {
		if s.stands(c, garden, year) {
			gardens = append(gardens, garden)
		}
	}
	return gardens
}

// wood returns the tree from which the wood of a gift can be taken, if there is one: of several the one with the shortest chain.
func (s search) wood(c course, g api.LostGift) (best tree, found bool) {
	for _, t := range c.trees {
		stands := t.year < g.Year && s.isIn(t, g.From, g.Year)
		if stands && (!found || len(t.chain) < len(best.chain)) {
			best, found = t, true
		}
	}
	return best, found
}

// with returns how it is if one more gift took. Gifts have to come in the order of their years.
func (s search) with(c course, gift int) course {
	c.took[gift] = true
	g := s.Gifts[gift]
	t, found := s.wood(c, g)
	if !found {
		return c
	}
	// the three indexes make append copy: chains, and courses, that begin alike do not share what follows
	length, many := len(t.chain), len(c.trees)
	chain := append(t.chain[:length:length], gift)
	c.trees = append(c.trees[:many:many], tree{g.To, g.Year, chain})
	return c
}

// run returns how it was if some gifts took.
func (s search) run(took []int) course {
	c := s.begun()
	for _, gift := range s.order {
		if slices.Contains(took, gift) {
			c = s.with(c, gift)
		}
	}
	return c
}

// courses yields all ways in which gifts can have taken, whatever the looks say.
func (s search) courses(yield func(c course) bool) {
	s.decide(s.begun(), s.order, yield)
}

// decide yields all that can become of a course with the gifts that are left, and reports whether it should go on.
func (s search) decide(c course, left []int, yield func(c course) bool) bool {
	if len(left) == 0 {
		return yield(c)
	}
	gift, later := left[0], left[1:]
	known := s.Gifts[gift].Took
	if known != api.Surely && !s.decide(c, later, yield) {
		return false
	}
	return known == api.Never || s.decide(s.with(c, gift), later, yield)
}

// truths yields all courses with which all looks agree.
func (s search) truths(yield func(c course) bool) {
next:
	for c := range s.courses {
		for _, l := range s.Looks {
			if s.stands(c, l.Garden, l.Year) != (l.Found == 1) {
				continue next
			}
		}
		if !yield(c) {
			return
		}
	}
}
