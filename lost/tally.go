package lost

import "pippin/api"

// tally is in how many truths something is so, and how many truths there are.
type tally struct {
	so, all int
}

// count adds a truth.
func (t *tally) count(so bool) {
	t.all++
	if so {
		t.so++
	}
}

// says returns what is known of it; there is an error if there is no truth.
func (t tally) says() (int, api.Errno) {
	switch {
	case t.all == 0:
		return 0, api.ErrNone
	case t.so == t.all:
		return api.Surely, api.OK
	case t.so == 0:
		return api.Never, api.OK
	}
	return api.Perhaps, api.OK
}

// worst returns how many truths are left at the most when it is found out whether it is so.
func (t tally) worst() int {
	return max(t.so, t.all-t.so)
}

// tallies counts the truths in which each of so many things is so.
func (s search) tallies(many int, is func(c course, thing int) bool) []tally {
	tallies := make([]tally, many)
	for c := range s.truths {
		for thing := range tallies {
			tallies[thing].count(is(c, thing))
		}
	}
	return tallies
}

// standing counts the truths in which the sort stands in each garden in a year.
func (s search) standing(year int) []tally {
	return s.tallies(s.Gardens, func(c course, garden int) bool { return s.stands(c, garden, year) })
}

// taking counts the truths in which each gift took.
func (s search) taking() []tally {
	return s.tallies(len(s.Gifts), func(c course, gift int) bool { return c.took[gift] })
}

// many counts the truths.
func (s search) many() int {
	many := 0
	for range s.truths {
		many++
	}
	return many
}
