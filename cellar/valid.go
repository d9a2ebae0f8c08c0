package cellar

import (
	"slices"

	"pippin/api"
)

// within reports whether a number is one of so many things that are counted from 0.
func within(number, many int) bool {
	return 0 <= number && number < many
}

// upTo reports whether a number is from 0 to another one.
func upTo(number, most int) bool {
	return 0 <= number && number <= most
}

func validCellar(c api.Cellar) bool {
	if len(c.Guests) > api.MaxCellarDays || len(c.Lots) > api.MaxCellarLots {
		return false
	}
	tooMany := func(guests int) bool { return !upTo(guests, api.MaxCellarGuests) }
	wrong := func(l api.CellarLot) bool { return !validLot(l) }
	if slices.ContainsFunc(c.Guests, tooMany) || slices.ContainsFunc(c.Lots, wrong) {
		return false
	}
	return upTo(c.Cold, api.MaxCellarDay) && upTo(c.Room, api.MaxCellarLots)
}

func validLot(l api.CellarLot) bool {
	if !upTo(l.Fruits, api.MaxCellarFruits) || !upTo(l.Last, api.MaxCellarDay) || !upTo(l.Ripe, l.Last) {
		return false
	}
	// only small numbers are multiplied
	return upTo(l.Worth, api.MaxCellarWorth) && upTo(l.Fall, api.MaxCellarWorth) && l.Worth >= l.Fall*(l.Last-l.Ripe)
}

// validCold takes it that the cellar is valid.
func validCold(c api.Cellar, cold []int) bool {
	if len(cold) > c.Room {
		return false
	}
	last := -1
	for _, lot := range cold {
		if lot <= last || lot >= len(c.Lots) {
			return false
		}
		last = lot
	}
	return true
}
