package gardens

import (
	"slices"

	"pippin/api"
)

// land has a valid book, but that grafts come behind all other trees.
type land struct {
	api.GardenBook
}

// enter returns the land of a valid book.
func enter(b api.GardenBook) (land, api.Errno) {
	if !validBook(b) {
		return land{}, api.ErrGarden
	}
	return land{b}, api.OK
}

// enterAsked does so if the number that is asked for is one of so many.
func enterAsked(b api.GardenBook, asked, many int) (land, api.Errno) {
	l, e := enter(b)
	if e == api.OK && !within(asked, many) {
		return land{}, api.ErrArg
	}
	return l, e
}

// enterLosses does so if losses are ones of the book, and are not too many.
func enterLosses(b api.GardenBook, losses []int) (land, api.Errno) {
	l, e := enter(b)
	switch {
	case e != api.OK:
		return land{}, e
	case len(losses) > api.MaxGardenLosses:
		return land{}, api.ErrMany
	case !areWithin(losses, len(b.Losses)):
		return land{}, api.ErrArg
	}
	return l, api.OK
}

// sorts returns all sorts of which something is so, ascending.
func (l land) sorts(is func(sort int) bool) []int {
	var sorts []int
	for sort := range l.Sorts {
		if is(sort) {
			sorts = append(sorts, sort)
		}
	}
	return sorts
}

// home returns the gardens of all trees of a sort.
func (l land) home(sort int) []int {
	var gardens []int
	for _, t := range l.Trees {
		if t.Sort == sort {
			gardens = append(gardens, t.Garden)
		}
	}
	return gardens
}

func (l land) stands(sort int) bool {
	return len(l.home(sort)) > 0
}

// takenBy returns all sorts that a loss takes.
func (l land) takenBy(loss int) []int {
	left := l.stripped(l.Losses[loss])
	return l.sorts(func(sort int) bool { return !left.stands(sort) })
}

func (l land) safe(sort int) bool {
	takes := func(loss []int) bool { return !l.stripped(loss).stands(sort) }
	return !slices.ContainsFunc(l.Losses, takes)
}

// stripped returns the land without the trees of some gardens.
func (l land) stripped(gardens []int) land {
	gone := func(t api.GardenTree) bool { return slices.Contains(gardens, t.Garden) }
	l.Trees = slices.DeleteFunc(slices.Clone(l.Trees), gone)
	return l
}

// after returns the book that some losses leave.
func (l land) after(losses []int) api.GardenBook {
	left := l
	for _, loss := range losses {
		left = left.stripped(l.Losses[loss])
	}
	b := api.GardenBook{Sorts: l.Sorts, Costs: slices.Clone(l.Costs), Trees: slices.Clone(left.Trees)}
	for _, loss := range l.Losses {
		b.Losses = append(b.Losses, slices.Clone(loss))
	}
	return b
}

// years returns after how many of some losses a sort that had a tree has none any more, if one comes to that.
func (l land) years(losses []int) (int, bool) {
	left := l
	for at, loss := range losses {
		left = left.stripped(l.Losses[loss])
		gone := func(sort int) bool { return l.stands(sort) && !left.stands(sort) }
		if len(l.sorts(gone)) > 0 {
			return at + 1, true
		}
	}
	return 0, false
}

// weak returns all gardens that have the only tree of some sort, ascending.
func (l land) weak() []int {
	var gardens []int
	for sort := range l.Sorts {
		if home := l.home(sort); len(home) == 1 {
			gardens = append(gardens, home[0])
		}
	}
	slices.Sort(gardens)
	return slices.Compact(gardens)
}

// need returns how many sorts are safe, but would not be so without the trees of a garden.
func (l land) need(garden int) int {
	left := l.stripped([]int{garden})
	needs := func(sort int) bool { return l.safe(sort) && !left.safe(sort) }
	return len(l.sorts(needs))
}
