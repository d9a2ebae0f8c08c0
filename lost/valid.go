package lost

import (
	"slices"

	"pippin/api"
)

// between reports whether a number is from a least one to a greatest one.
func between(number, least, greatest int) bool {
	return least <= number && number <= greatest
}

// within reports whether a number is one of so many things that are counted from 0.
func within(number, many int) bool {
	return 0 <= number && number < many
}

// all reports whether each element of a list is right.
func all[T any](list []T, right func(element T) bool) bool {
	for _, element := range list {
		if !right(element) {
			return false
		}
	}
	return true
}

// ascending reports whether a list is strictly ascending, and has numbers of so many things alone.
func ascending(numbers []int, many int) bool {
	last := -1
	return all(numbers, func(number int) bool {
		comes := last < number && number < many
		last = number
		return comes
	})
}

func validSearch(x api.LostSearch) bool {
	if !between(x.Gardens, 0, api.MaxLostGardens) || !between(x.Lives, 1, api.MaxLostYear) {
		return false
	}
	if len(x.Gifts) > api.MaxLostGifts || len(x.Looks) > api.MaxLostLooks {
		return false
	}
	validGift := func(g api.LostGift) bool {
		return within(g.From, x.Gardens) && within(g.To, x.Gardens) && g.From != g.To && between(g.Year, 1, api.MaxLostYear) && between(g.Took, api.Surely, api.Perhaps)
	}
	validLook := func(l api.LostLook) bool {
		return within(l.Garden, x.Gardens) && validYear(l.Year) && within(l.Found, 2)
	}
	return ascending(x.First, x.Gardens) && all(x.Gifts, validGift) && all(x.Looks, validLook)
}

func validYear(year int) bool {
	return between(year, 0, api.MaxLostYear)
}

// validTook reports whether a list of what took is one of a valid search, be it a truth or not.
func validTook(x api.LostSearch, took []int) bool {
	if !ascending(took, len(x.Gifts)) {
		return false
	}
	for gift, g := range x.Gifts {
		refused := api.Surely
		if slices.Contains(took, gift) {
			refused = api.Never
		}
		if g.Took == refused {
			return false
		}
	}
	return true
}
