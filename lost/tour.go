package lost

import "slices"

// tour returns the least of the shortest lists of gardens in one of which the sort stands in a year, in each truth in which it stands anywhere, if there is such a truth.
func (s search) tour(year int) ([]int, bool) {
	places := s.places(year)
	if len(places) == 0 {
		return nil, false
	}
	for many := range s.Gardens {
		if tour, meets := s.meet(places, 0, many+1); meets {
			return tour, true
		}
	}
	return nil, false
}

// places returns the gardens in which the sort stands in a year, for each truth in which it stands anywhere, but no gardens twice.
func (s search) places(year int) [][]int {
	var places [][]int
	for c := range s.truths {
		gardens := s.gardens(c, year)
		known := slices.ContainsFunc(places, func(other []int) bool { return slices.Equal(other, gardens) })
		if len(gardens) > 0 && !known {
			places = append(places, gardens)
		}
	}
	return places
}

// meet returns the least list of at most so many gardens, from a first one on, that has one garden of each of the places, if there is one.
func (s search) meet(places [][]int, first, many int) ([]int, bool) {
	if len(places) == 0 {
		return nil, true
	}
	if many == 0 {
		return nil, false
	}
	for garden := first; garden < s.Gardens; garden++ {
		here := func(gardens []int) bool { return slices.Contains(gardens, garden) }
		left := slices.DeleteFunc(slices.Clone(places), here)
		if rest, meets := s.meet(left, garden+1, many-1); meets {
			return slices.Concat([]int{garden}, rest), true
		}
	}
	return nil, false
}
