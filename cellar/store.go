package cellar

import (
	"slices"

	"pippin/api"
)

// store is a valid cellar whose lots in the cold room are later already. It may have one guest or fruit more than a cellar can.
type store struct {
	api.Cellar
}

func newStore(c api.Cellar, cold []int) store {
	c.Lots = slices.Clone(c.Lots)
	for _, lot := range cold {
		c.Lots[lot].Ripe += c.Cold
		c.Lots[lot].Last += c.Cold
	}
	return store{c}
}

// enter returns the store of a cellar, if both it and the lots in the cold room are valid.
func enter(c api.Cellar, cold []int) (store, api.Errno) {
	if !validCellar(c) {
		return store{}, api.ErrCellar
	}
	if !validCold(c, cold) {
		return store{}, api.ErrArg
	}
	return newStore(c, cold), api.OK
}

// enterAsked does so if the day or the lot that is asked for is one of so many.
func enterAsked(c api.Cellar, cold []int, asked, many int) (store, api.Errno) {
	s, e := enter(c, cold)
	if e == api.OK && !within(asked, many) {
		return store{}, api.ErrArg
	}
	return s, e
}

func (s store) withGuest(day int) store {
	s.Guests = slices.Clone(s.Guests)
	s.Guests[day]++
	return s
}

func (s store) withFruit(lot int) store {
	s.Lots = slices.Clone(s.Lots)
	s.Lots[lot].Fruits++
	return s
}

// guests counts those of all days.
func (s store) guests() int {
	sum := 0
	for _, many := range s.Guests {
		sum += many
	}
	return sum
}

// canEat reports whether fruits of a lot can be eaten on a day.
func (s store) canEat(day, lot int) bool {
	return s.Lots[lot].Ripe <= day && day <= s.Lots[lot].Last
}

// worth returns what a fruit of a lot is worth on a day on which it can be eaten.
func (s store) worth(day, lot int) int {
	l := s.Lots[lot]
	return l.Worth - l.Fall*(day-l.Ripe)
}

// fruit counts a fruit, whatever it is worth.
func (s store) fruit(_, _ int) int {
	return 1
}

// leaning returns what a fruit is worth if, of plans with the same worth, those are better in which more fruits of a lot are eaten (lean is 1), or fewer (-1).
func (s store) leaning(asked, lean int) price {
	return func(day, lot int) int {
		// a worth of 1 counts more than all fruits of the lot
		worth := s.worth(day, lot) * (api.MaxCellarFruits + 1)
		if lot == asked {
			worth += lean
		}
		return worth
	}
}

// greatest returns the greatest worth of a good plan.
func (s store) greatest() int {
	_, worth := s.best(s.worth)
	return worth
}

// eaten returns how many fruits of a lot are eaten in good plans with the greatest worth.
func (s store) eaten(lot int) api.Span {
	least, _ := s.best(s.leaning(lot, -1))
	most, _ := s.best(s.leaning(lot, 1))
	return api.Span{Low: least.ofLot(lot), High: most.ofLot(lot)}
}
