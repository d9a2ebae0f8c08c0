package cellar

import "pippin/api"

// kept stands for the day of fruits that are not eaten.
const kept = -1

// way is the best one found so far to get one more fruit: of a lot, which is taken from a day, or from those that are kept; or on a day, where it is of a lot.
type way struct {
	found      bool
	gain, from int
}

// try takes another way if it is better, and reports whether it is.
func (w *way) try(gain, from int) bool {
	if w.found && gain <= w.gain {
		return false
	}
	*w = way{true, gain, from}
	return true
}

// ways has the way of each lot and of each day.
type ways struct {
	lots [api.MaxCellarLots]way
	days [api.MaxCellarDays]way
}

// table is laid with fruits, each of which counts what its price says.
type table struct {
	store
	meals
	price
}

// best returns the meals of a good plan whose fruits count the most, and what they count.
func (s store) best(of price) (meals, int) {
	t := table{s, meals{}, of}
	// as long as each fruit is the best one to be had, no exchange of fruits is worth anything
	for t.addBest() {
	}
	return t.meals, t.count(of)
}

// addBest lays one more fruit, if some fruit adds anything to what all of them count.
func (t *table) addBest() bool {
	w := t.ways()
	best, gain := kept, 0
	for day, guests := range t.Guests {
		if way := w.days[day]; way.found && way.gain > gain && t.onDay(day) < guests {
			best, gain = day, way.gain
		}
	}
	t.add(w, best)
	return best != kept
}

// add lays one more fruit on a day. If it comes from another day, that one gets another fruit instead, and so on, up to one that was kept.
func (t *table) add(w ways, day int) {
	for day != kept {
		lot := w.days[day].from
		t.meals[day][lot]++
		day = w.lots[lot].from
		if day != kept {
			t.meals[day][lot]--
		}
	}
}

// ways finds the best ways. It ends, because fruits that are only exchanged gain nothing.
func (t *table) ways() ways {
	var w ways
	for lot, l := range t.Lots {
		if t.ofLot(lot) < l.Fruits {
			w.lots[lot].try(0, kept)
		}
	}
	for better := true; better; {
		better = false
		for day := range t.Guests {
			for lot := range t.Lots {
				if t.canEat(day, lot) && t.improve(&w, day, lot) {
					better = true
				}
			}
		}
	}
	return w
}

// improve tries to lay a fruit of a lot on a day, or to take one from it, and reports whether one of the two is better than what was found.
func (t *table) improve(w *ways, day, lot int) bool {
	counts, better := t.price(day, lot), false
	if way := w.lots[lot]; way.found {
		better = w.days[day].try(way.gain+counts, lot)
	}
	if way := w.days[day]; way.found && t.meals[day][lot] > 0 && w.lots[lot].try(way.gain-counts, day) {
		better = true
	}
	return better
}
