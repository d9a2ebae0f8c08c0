package cellar_test

import (
	"slices"
	"testing"

	"pippin/api"
	"pippin/cases"
	"pippin/names"
)

// P0.2 (the lots of one sort)
func TestLotsOfOneSort(t *testing.T) {
	d := cases.Dice(2)
	fewer := 0
	for range 1000 {
		c, letters := throwNamed(&d)
		if _, e := names.Clash(letters); e != api.ErrNone {
			continue
		}
		joined := joinNamed(t, c, letters)
		if len(joined.Lots) < len(c.Lots) {
			fewer++
		}
		if worthOf(t, c, nil) != worthOf(t, joined, nil) || fedOf(t, c, nil) != fedOf(t, joined, nil) {
			t.Errorf("%v: Worth is %d, Fed %d; of %v %d and %d", c, worthOf(t, c, nil), fedOf(t, c, nil), joined, worthOf(t, joined, nil), fedOf(t, joined, nil))
		}
	}
	// a test that put few lots together would say little
	if fewer < 200 {
		t.Errorf("%d cellars have fewer lots", fewer)
	}
}

// throwNamed returns a cellar with lots of two kinds, which together have no more fruits than one can have, and letters on their names, which are their numbers.
func throwNamed(d *cases.Dice) (api.Cellar, api.NameBook) {
	c := throwCellar(d, 1+d.Below(5), 2, 3)
	kinds := c.Lots
	c.Lots = nil
	for range 1 + d.Below(api.MaxCellarLots) {
		l := kinds[d.Below(len(kinds))]
		l.Fruits = d.Below(4)
		c.Lots = append(c.Lots, l)
	}
	letters := api.NameBook{Names: len(c.Lots)}
	for range d.Below(7) {
		if b := d.Below(len(c.Lots)); b > 0 {
			letters.Letters = append(letters.Letters, api.NameLetter{A: d.Below(b), B: b, Same: truth(d.Below(4) > 0)})
		}
	}
	return c, letters
}

// joinNamed puts those lots together that are alike, and whose names are one.
func joinNamed(t *testing.T, c api.Cellar, letters api.NameBook) api.Cellar {
	t.Helper()
	joined := c
	joined.Lots = nil
	var first []int
	for number, l := range c.Lots {
		names, e := names.Of(letters, number)
		if e != api.OK {
			t.Fatalf("names.Of of %v, %d: error %d", letters, number, e)
		}
		at := slices.IndexFunc(first, func(other int) bool {
			like := c.Lots[other]
			like.Fruits = l.Fruits
			return slices.Contains(names, other) && like == l
		})
		if at < 0 {
			first, joined.Lots = append(first, number), append(joined.Lots, l)
			continue
		}
		joined.Lots[at].Fruits += l.Fruits
	}
	return joined
}
