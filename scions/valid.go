package scions

import (
	"slices"

	"pippin/api"
)

// within reports whether a number is one of so many things that are counted from 0.
func within(number, many int) bool {
	return 0 <= number && number < many
}

// upTo reports whether a number is from 0 to another one.
func upTo(number, most int) bool {
	return 0 <= number && number <= most
}

func validList(l api.ScionList) bool {
	if len(l.Scions) > api.MaxScionSorts || len(l.Gardens) > api.MaxScionGardens || len(l.Wants) > api.MaxScionWants {
		return false
	}
	tooMany := func(scions int) bool { return !upTo(scions, api.MaxScions) }
	wrong := func(g api.ScionGarden) bool { return !validGarden(g) }
	return !slices.ContainsFunc(l.Scions, tooMany) && !slices.ContainsFunc(l.Gardens, wrong) && validWants(l)
}

func validGarden(g api.ScionGarden) bool {
	return upTo(g.Places, api.MaxScionPlaces) && within(g.Frost, api.MaxFrosts)
}

func validWants(l api.ScionList) bool {
	for at, w := range l.Wants {
		if !within(w.Garden, len(l.Gardens)) || !within(w.Sort, len(l.Scions)) || slices.Contains(l.Wants[:at], w) {
			return false
		}
	}
	return true
}

// validGift reports whether a gift is one of a list, whether it fits or not.
func validGift(l api.ScionList, gift []int) bool {
	last := -1
	for _, want := range gift {
		if want <= last || want >= len(l.Wants) {
			return false
		}
		last = want
	}
	return true
}
