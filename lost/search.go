package lost

import (
	"cmp"
	"slices"

	"pippin/api"
)

// search has a valid search, and its gifts in the order of their years.
type search struct {
	api.LostSearch
	order []int
}

// enter returns the search at work.
func enter(x api.LostSearch) (search, api.Errno) {
	if !validSearch(x) {
		return search{}, api.ErrLost
	}
	var order []int
	for gift := range x.Gifts {
		order = append(order, gift)
	}
	slices.SortStableFunc(order, func(a, b int) int { return cmp.Compare(x.Gifts[a].Year, x.Gifts[b].Year) })
	return search{x, order}, api.OK
}

// enterYear does so if the year that is asked for can be.
func enterYear(x api.LostSearch, year int) (search, api.Errno) {
	s, e := enter(x)
	if e == api.OK && !validYear(year) {
		return search{}, api.ErrArg
	}
	return s, e
}

// enterPlace does so if the garden that is asked for is one of the search, too.
func enterPlace(x api.LostSearch, garden, year int) (search, api.Errno) {
	s, e := enterYear(x, year)
	if e == api.OK && !within(garden, x.Gardens) {
		return search{}, api.ErrArg
	}
	return s, e
}

// sure returns all gardens in which the sort surely stands in a year, and in which it perhaps does.
func (s search) sure(year int) (sure, perhaps []int, e api.Errno) {
	for garden, t := range s.standing(year) {
		known, e := t.says()
		switch {
		case e != api.OK:
			return nil, nil, e
		case known == api.Surely:
			sure = append(sure, garden)
		case known == api.Perhaps:
			perhaps = append(perhaps, garden)
		}
	}
	return sure, perhaps, api.OK
}

// ask returns the first of the gardens that are perhaps with which the fewest truths are left at the worst, if there are any.
func (s search) ask(year int) (best int, found bool) {
	least := 0
	for garden, t := range s.standing(year) {
		if known, _ := t.says(); known != api.Perhaps {
			continue
		}
		if !found || t.worst() < least {
			best, least, found = garden, t.worst(), true
		}
	}
	return best, found
}

// end returns the last year in which the sort stands somewhere.
func (s search) end(c course) int {
	end := 0
	for _, t := range c.trees {
		end = max(end, s.last(t))
	}
	return end
}

// ends returns between which years this is, if there are truths, and trees in them: without a first tree there is never another one.
func (s search) ends() (ends api.Span, found bool) {
	if len(s.First) == 0 {
		return api.Span{}, false
	}
	for c := range s.truths {
		end := s.end(c)
		if !found {
			ends, found = api.Span{Low: end, High: end}, true
		}
		ends = api.Span{Low: min(ends.Low, end), High: max(ends.High, end)}
	}
	return ends, found
}

// chain returns a shortest chain of a garden and a year, if there is one.
func (s search) chain(garden, year int) (best []int, found bool) {
	for c := range s.truths {
		for _, t := range c.trees {
			if s.isIn(t, garden, year) && (!found || len(t.chain) < len(best)) {
				best, found = t.chain, true
			}
		}
	}
	return best, found
}
