package cellar_test

import (
	"slices"
	"testing"

	"pippin/api"
	"pippin/cases"
	"pippin/cellar"
)

// lotsWith returns the lots of a cellar, some of which are in the cold room.
func lotsWith(c api.Cellar, cold []int) []api.CellarLot {
	lots := slices.Clone(c.Lots)
	for number := range lots {
		if slices.Contains(cold, number) {
			lots[number].Ripe += c.Cold
			lots[number].Last += c.Cold
		}
	}
	return lots
}

// worthOn returns what a fruit of a lot is worth on a day, and whether it can be eaten then. It counts from day to day.
func worthOn(l api.CellarLot, day int) (int, bool) {
	worth := l.Worth
	for at := l.Ripe; at <= l.Last; at++ {
		if at == day {
			return worth, true
		}
		worth -= l.Fall
	}
	return 0, false
}

// eatenBy returns how many fruits of a plan are eaten of a lot, and on a day.
func eatenBy(meals []api.CellarMeal, lot, day int) (ofLot, onDay int) {
	for _, m := range meals {
		if m.Lot == lot {
			ofLot += m.Fruits
		}
		if m.Day == day {
			onDay += m.Fruits
		}
	}
	return ofLot, onDay
}

// judge says whether a plan is good, and what it is worth, as the chapter defines it.
func judge(c api.Cellar, cold []int, meals []api.CellarMeal) (int, bool) {
	lots, sum := lotsWith(c, cold), 0
	last := -1
	for _, m := range meals {
		if m.Day < 0 || m.Day >= len(c.Guests) || m.Lot < 0 || m.Lot >= len(lots) || m.Fruits < 1 || m.Day*api.MaxCellarLots+m.Lot <= last {
			return 0, false
		}
		worth, can := worthOn(lots[m.Lot], m.Day)
		ofLot, onDay := eatenBy(meals, m.Lot, m.Day)
		if !can || ofLot > lots[m.Lot].Fruits || onDay > c.Guests[m.Day] {
			return 0, false
		}
		sum += worth * m.Fruits
		last = m.Day*api.MaxCellarLots + m.Lot
	}
	return sum, true
}

// eachPlan calls a test with each good plan.
func eachPlan(c api.Cellar, cold []int, test func(meals []api.CellarMeal)) {
	lots := lotsWith(c, cold)
	guests := slices.Clone(c.Guests)
	var fill func(at int, begun []api.CellarMeal)
	fill = func(at int, begun []api.CellarMeal) {
		if at == len(guests)*len(lots) {
			test(begun)
			return
		}
		day, number := at/len(lots), at%len(lots)
		fill(at+1, begun)
		if _, can := worthOn(lots[number], day); !can {
			return
		}
		for fruits := 1; fruits <= min(guests[day], lots[number].Fruits); fruits++ {
			guests[day] -= fruits
			lots[number].Fruits -= fruits
			fill(at+1, append(slices.Clip(begun), meal(day, number, fruits)))
			guests[day] += fruits
			lots[number].Fruits += fruits
		}
	}
	fill(0, nil)
}

// told is what all good plans together say.
type told struct {
	worth, fed int
	eaten      [api.MaxCellarLots]api.Span
}

func tell(c api.Cellar, cold []int) told {
	all := told{worth: -1}
	eachPlan(c, cold, func(meals []api.CellarMeal) {
		worth, _ := judge(c, cold, meals)
		fed := 0
		for _, m := range meals {
			fed += m.Fruits
		}
		all.fed = max(all.fed, fed)
		if worth < all.worth {
			return
		}
		for lot := range all.eaten {
			many, _ := eatenBy(meals, lot, -1)
			if worth > all.worth {
				all.eaten[lot] = span(many, many)
			}
			all.eaten[lot] = span(min(all.eaten[lot].Low, many), max(all.eaten[lot].High, many))
		}
		all.worth = worth
	})
	return all
}

// throwLot returns a lot whose worth is small, so that many plans are worth the same.
func throwLot(d *cases.Dice, days, fruits int) api.CellarLot {
	l := lot(d.Below(fruits+1), d.Below(days), 0, 0, d.Below(3))
	l.Last = l.Ripe + d.Below(3)
	l.Worth = l.Fall*(l.Last-l.Ripe) + d.Below(5)
	return l
}

// throwCellar returns a valid cellar with so many days and lots, and at most so many guests and fruits.
func throwCellar(d *cases.Dice, days, lots, most int) api.Cellar {
	c := house(nil, d.Below(3), d.Below(lots+2))
	c.Room = min(c.Room, api.MaxCellarLots)
	for range days {
		c.Guests = append(c.Guests, d.Below(most+1))
	}
	for range lots {
		c.Lots = append(c.Lots, throwLot(d, max(days, 1), most))
	}
	return c
}

// throwCold returns some lots in the cold room.
func throwCold(d *cases.Dice, c api.Cellar) []int {
	many := d.Below(min(c.Room, len(c.Lots)) + 1)
	return slices.Sorted(slices.Values(d.Shuffled(len(c.Lots))[:many]))
}

// eachCellar calls a test with many small cellars.
func eachCellar(test func(d *cases.Dice, c api.Cellar)) {
	d := cases.Dice(5)
	test(&d, api.Cellar{})
	test(&d, houseC())
	test(&d, houseD())
	for range 1500 {
		days, lots := d.Below(4), d.Below(4)
		test(&d, throwCellar(&d, days, lots, 2))
	}
}

// eachLarge calls a test with some cellars that have as many days and lots as there can be.
func eachLarge(test func(d *cases.Dice, c api.Cellar)) {
	d := cases.Dice(50)
	test(&d, full())
	for range 60 {
		c := throwCellar(&d, api.MaxCellarDays, api.MaxCellarLots, api.MaxCellarFruits)
		for number := range c.Lots {
			l := &c.Lots[number]
			l.Last = min(api.MaxCellarDay, l.Last+d.Below(4))
			l.Worth = l.Fall*(l.Last-l.Ripe) + d.Below(30)
		}
		test(&d, c)
	}
}

// P5.2 to P5.9: what all good plans say, written down one by one.
func TestAgainstAllPlans(t *testing.T) {
	eachCellar(func(d *cases.Dice, c api.Cellar) {
		cold := throwCold(d, c)
		all := tell(c, cold)
		compare(t, c, cold, all)
		expectPlan(t, c, cold, all.worth)
		expectEaten(t, c, cold, all.eaten[:len(c.Lots)])
		var guest, fruit []int
		for day := range c.Guests {
			more := tell(with(c, func(c *api.Cellar) { c.Guests[day]++ }), cold)
			guest = append(guest, more.worth-all.worth)
		}
		for lot := range c.Lots {
			more := tell(with(c, func(c *api.Cellar) { c.Lots[lot].Fruits++ }), cold)
			fruit = append(fruit, more.worth-all.worth)
		}
		expectMore(t, c, cold, guest, fruit)
	})
}

func compare(t *testing.T, c api.Cellar, cold []int, all told) {
	t.Helper()
	guests := 0
	for _, many := range c.Guests {
		guests += many
	}
	worth, e := cellar.Worth(c, cold)
	fed, f := cellar.Fed(c, cold)
	enough, g := cellar.Enough(c, cold)
	if worth != all.worth || fed != all.fed || enough != (all.fed == guests) || e != api.OK || f != api.OK || g != api.OK {
		t.Errorf("%v, %v: Worth = %d, %d; Fed = %d, %d; Enough = %t, %d; want %d, %d of %d guests", c, cold, worth, e, fed, f, enough, g, all.worth, all.fed, guests)
	}
}

// P5.2: plans as they come, many of which are not good.
func TestGoodAgainstTheChapter(t *testing.T) {
	good, many := 0, 0
	eachCellar(func(d *cases.Dice, c api.Cellar) {
		cold := throwCold(d, c)
		best, _ := cellar.Plan(c, cold)
		for range 20 {
			meals := spoil(d, best)
			worth, is := judge(c, cold, meals)
			if n, ok, e := cellar.Good(c, cold, meals); n != worth || ok != is || e != api.OK {
				t.Errorf("Good of %v, %v, %v = %d, %t, %d; want %d, %t", c, cold, meals, n, ok, e, worth, is)
			}
			good += truth(is)
			many++
		}
	})
	// a test that saw few plans of one kind would say little
	if good < many/10 || good > many*9/10 {
		t.Errorf("%d of %d plans are good", good, many)
	}
}

// spoil returns a plan of which a few meals are changed, come twice, or are gone.
func spoil(d *cases.Dice, meals []api.CellarMeal) []api.CellarMeal {
	meals = slices.Clone(meals)
	for range d.Below(3) {
		at := d.Below(len(meals) + 1)
		if at == len(meals) {
			meals = append(meals, meal(d.Below(3), d.Below(3), 1))
			continue
		}
		switch d.Below(5) {
		case 0:
			meals[at].Day += d.Below(3) - 1
		case 1:
			meals[at].Lot += d.Below(3) - 1
		case 2:
			meals[at].Fruits += d.Below(3) - 1
		case 3:
			meals = slices.Delete(meals, at, at+1)
		case 4:
			meals = slices.Insert(meals, d.Below(len(meals)+1), meals[at])
		}
	}
	return meals
}

// allColds writes down all lists of lots in the cold room, those with the fewest lots first, and of these the least one.
func allColds(c api.Cellar) [][]int {
	var all [][]int
	for _, cold := range cases.Sets(len(c.Lots)) {
		if len(cold) <= c.Room {
			all = append(all, cold)
		}
	}
	slices.SortFunc(all, func(one, other []int) int {
		if len(one) != len(other) {
			return len(one) - len(other)
		}
		return slices.Compare(one, other)
	})
	return all
}

// P5.10 to P5.12: all lists of lots in the cold room.
func TestAgainstAllColds(t *testing.T) {
	expect := func(c api.Cellar, worth func(cold []int) int) {
		best, choose, must := -1, []int(nil), []int(nil)
		for _, cold := range allColds(c) {
			n := worth(cold)
			if n > best {
				best, choose, must = n, cold, cold
			} else if n == best {
				must = slices.DeleteFunc(slices.Clone(must), func(lot int) bool { return !slices.Contains(cold, lot) })
			}
		}
		n, e := cellar.Best(c)
		lots, f := cellar.Choose(c)
		common, g := cellar.Must(c)
		if n != best || !slices.Equal(lots, choose) || !slices.Equal(common, must) || e != api.OK || f != api.OK || g != api.OK {
			t.Errorf("%v: Best = %d, %d; Choose = %v, %d; Must = %v, %d; want %d, %v, %v", c, n, e, lots, f, common, g, best, choose, must)
		}
	}
	eachCellar(func(_ *cases.Dice, c api.Cellar) {
		expect(c, func(cold []int) int { return tell(c, cold).worth })
	})
	d := cases.Dice(500)
	for range 100 {
		c := throwCellar(&d, 1+d.Below(api.MaxCellarDays), api.MaxCellarLots, 3)
		expect(c, func(cold []int) int { return worthOf(t, c, cold) })
	}
}

// exchanges has what is gained by a fruit more here and one less there: of lots, on days, and outside of both, where fruits come from that are kept, and where guests have none.
type exchanges [1 + api.MaxCellarLots + api.MaxCellarDays][1 + api.MaxCellarLots + api.MaxCellarDays]int

const no = -1 << 20

// exchangesOf writes down each single exchange that a good plan allows.
func exchangesOf(c api.Cellar, cold []int, meals []api.CellarMeal) exchanges {
	var x exchanges
	for from := range x {
		for to := range x {
			x[from][to] = no
		}
	}
	for lot, l := range lotsWith(c, cold) {
		for day, guests := range c.Guests {
			at := 1 + api.MaxCellarLots + day
			ofLot, onDay := eatenBy(meals, lot, day)
			worth, can := worthOn(l, day)
			if can {
				x[1+lot][at] = worth
			}
			if slices.ContainsFunc(meals, func(m api.CellarMeal) bool { return m.Day == day && m.Lot == lot }) {
				x[at][1+lot] = -worth
			}
			if ofLot < l.Fruits {
				x[0][1+lot] = 0
			}
			if ofLot > 0 {
				x[1+lot][0] = 0
			}
			if onDay < guests {
				x[at][0] = 0
			}
			if onDay > 0 {
				x[0][at] = 0
			}
		}
	}
	return x
}

// gains reports whether any row of exchanges that ends where it begins gains something. A good plan has the greatest worth just if none does.
func (x exchanges) gains() bool {
	for by := range x {
		for from := range x {
			for to := range x {
				x[from][to] = max(x[from][to], x[from][by]+x[by][to])
			}
		}
		for at := range x {
			if x[at][at] > 0 {
				return true
			}
		}
	}
	return false
}

// P5.3, P5.4, P5.9 in cellars that have too many plans to write them down.
func TestWorthOfLarge(t *testing.T) {
	eachLarge(func(d *cases.Dice, c api.Cellar) {
		cold := throwCold(d, c)
		meals, _ := cellar.Plan(c, cold)
		if exchangesOf(c, cold, meals).gains() {
			t.Errorf("Plan of %v, %v = %v, which some exchange makes better", c, cold, meals)
		}
		worth, _ := judge(c, cold, meals)
		if n, e := cellar.Worth(c, cold); n != worth || e != api.OK {
			t.Errorf("Worth of %v, %v = %d, %d; want %d", c, cold, n, e, worth)
		}
		for lot := range c.Lots {
			eaten, _ := cellar.Eaten(c, cold, lot)
			fewer := func(fruits int) int {
				return worthOf(t, with(c, func(c *api.Cellar) { c.Lots[lot].Fruits = fruits }), cold)
			}
			if fewer(eaten.Low) != worth || eaten.Low > 0 && fewer(eaten.Low-1) == worth {
				t.Errorf("Eaten of %v, %v, %d = %v", c, cold, lot, eaten)
			}
		}
	})
}

// P5.5 of large cellars: of no set of lots more can be eaten than there are guests on their days, and of the others not more than they have; with some set just as many are eaten.
func TestFedOfLarge(t *testing.T) {
	eachLarge(func(d *cases.Dice, c api.Cellar) {
		cold := throwCold(d, c)
		lots := lotsWith(c, cold)
		want := api.MaxCellarLots * api.MaxCellarFruits
		for _, in := range cases.AllBelow(slices.Repeat(list(2), len(lots))) {
			sum := 0
			for number, l := range lots {
				sum += (1 - in[number]) * l.Fruits
			}
			for day, guests := range c.Guests {
				eat := false
				for number, l := range lots {
					_, can := worthOn(l, day)
					eat = eat || can && in[number] == 1
				}
				sum += truth(eat) * guests
			}
			want = min(want, sum)
		}
		if fed, e := cellar.Fed(c, cold); fed != want || e != api.OK {
			t.Errorf("Fed of %v, %v = %d, %d; want %d", c, cold, fed, e, want)
		}
	})
}

// times returns a cellar with so many times the guests and fruits.
func times(c api.Cellar, many int) api.Cellar {
	return with(c, func(c *api.Cellar) {
		for day := range c.Guests {
			c.Guests[day] *= many
		}
		for lot := range c.Lots {
			c.Lots[lot].Fruits *= many
		}
	})
}

// P5.3, P5.5, P5.9: with ten times the guests and fruits all is ten times as much.
func TestTenTimes(t *testing.T) {
	eachCellar(func(d *cases.Dice, c api.Cellar) {
		if cellar.Check(times(c, 10)) != api.OK {
			return
		}
		cold := throwCold(d, c)
		all := tell(c, cold)
		all.worth, all.fed = 10*all.worth, 10*all.fed
		for lot, eaten := range all.eaten {
			all.eaten[lot] = span(10*eaten.Low, 10*eaten.High)
		}
		compare(t, times(c, 10), cold, all)
		expectEaten(t, times(c, 10), cold, all.eaten[:len(c.Lots)])
	})
}
