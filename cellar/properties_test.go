package cellar_test

import (
	"reflect"
	"slices"
	"testing"

	"pippin/api"
	"pippin/cases"
	"pippin/cellar"
)

// of calls a function that is to have no error.
func of(t *testing.T, call func(c api.Cellar, cold []int) (int, api.Errno), c api.Cellar, cold []int) int {
	t.Helper()
	n, e := call(c, cold)
	if e != api.OK {
		t.Fatalf("%v, %v: error %d", c, cold, e)
	}
	return n
}

func worthOf(t *testing.T, c api.Cellar, cold []int) int {
	t.Helper()
	return of(t, cellar.Worth, c, cold)
}

func fedOf(t *testing.T, c api.Cellar, cold []int) int {
	t.Helper()
	return of(t, cellar.Fed, c, cold)
}

func bestOf(t *testing.T, c api.Cellar) int {
	t.Helper()
	return of(t, func(c api.Cellar, _ []int) (int, api.Errno) { return cellar.Best(c) }, c, nil)
}

func guestOf(t *testing.T, c api.Cellar, cold []int, day int) int {
	t.Helper()
	return of(t, func(c api.Cellar, cold []int) (int, api.Errno) { return cellar.Guest(c, cold, day) }, c, cold)
}

func fruitOf(t *testing.T, c api.Cellar, cold []int, lot int) int {
	t.Helper()
	return of(t, func(c api.Cellar, cold []int) (int, api.Errno) { return cellar.Fruit(c, cold, lot) }, c, cold)
}

// chosen calls Choose or Must.
func chosen(t *testing.T, call func(c api.Cellar) ([]int, api.Errno), c api.Cellar) []int {
	t.Helper()
	lots, e := call(c)
	if e != api.OK {
		t.Fatalf("%v: error %d", c, e)
	}
	return lots
}

// P5.13 (each plan)
func TestEachPlan(t *testing.T) {
	eachCellar(func(d *cases.Dice, c api.Cellar) {
		cold := throwCold(d, c)
		worth, fed := worthOf(t, c, cold), fedOf(t, c, cold)
		meals, _ := cellar.Plan(c, cold)
		if n, good, e := cellar.Good(c, cold, meals); n != worth || !good || e != api.OK {
			t.Errorf("%v, %v: Plan %v: Good = %d, %t, %d; Worth is %d", c, cold, meals, n, good, e, worth)
		}
		eachPlan(c, cold, func(meals []api.CellarMeal) {
			n, good, e := cellar.Good(c, cold, meals)
			many := 0
			for _, m := range meals {
				many += m.Fruits
			}
			if !good || e != api.OK || n > worth || many > fed {
				t.Errorf("%v, %v: Good of %v = %d, %t, %d; Worth is %d, Fed %d", c, cold, meals, n, good, e, worth, fed)
			}
			if len(meals) == 0 {
				return
			}
			at := d.Below(len(meals))
			fewer := slices.Delete(slices.Clone(meals), at, at+1)
			if _, good, e := cellar.Good(c, cold, fewer); !good || e != api.OK {
				t.Errorf("%v, %v: %v is good, but %v is not", c, cold, meals, fewer)
			}
		})
	})
}

// P5.14 (more): of everything.
func TestMore(t *testing.T) {
	expect := func(c, more api.Cellar, cold []int) {
		if cellar.Check(more) != api.OK {
			return
		}
		if worthOf(t, more, cold) < worthOf(t, c, cold) || fedOf(t, more, cold) < fedOf(t, c, cold) {
			t.Errorf("%v, %v: Worth is %d, Fed %d; of %v %d and %d", c, cold, worthOf(t, c, cold), fedOf(t, c, cold), more, worthOf(t, more, cold), fedOf(t, more, cold))
		}
	}
	test := func(d *cases.Dice, c api.Cellar) {
		cold := throwCold(d, c)
		for day := range c.Guests {
			expect(c, with(c, func(c *api.Cellar) { c.Guests[day]++ }), cold)
		}
		for lot := range c.Lots {
			expect(c, with(c, func(c *api.Cellar) { c.Lots[lot].Fruits++ }), cold)
			expect(c, with(c, func(c *api.Cellar) { c.Lots[lot].Last++ }), cold)
			expect(c, with(c, func(c *api.Cellar) {
				c.Lots[lot].Ripe--
				c.Lots[lot].Worth += c.Lots[lot].Fall
			}), cold)
		}
	}
	eachCellar(test)
	eachLarge(test)
}

// P5.14 (more): of guests.
func TestMoreGuests(t *testing.T) {
	test := func(d *cases.Dice, c api.Cellar) {
		cold := throwCold(d, c)
		for day := range c.Guests {
			guest, most := guestOf(t, c, cold, day), 0
			for _, l := range lotsWith(c, cold) {
				worth, _ := worthOn(l, day)
				most = max(most, worth)
			}
			if guest < 0 || guest > most {
				t.Errorf("Guest of %v, %v, %d = %d; a fruit is worth at most %d", c, cold, day, guest, most)
			}
			more := with(c, func(c *api.Cellar) { c.Guests[day]++ })
			if cellar.Check(more) != api.OK {
				continue
			}
			if second := guestOf(t, more, cold, day); second > guest || worthOf(t, more, cold) != worthOf(t, c, cold)+guest {
				t.Errorf("Guest of %v, %v, %d = %d, of a second one %d", c, cold, day, guest, second)
			}
		}
	}
	eachCellar(test)
	eachLarge(test)
}

// P5.8: one more fruit of a lot is as good as one more lot with one fruit, also if the lot has as many as it can have.
func TestMoreFruits(t *testing.T) {
	expect := func(d *cases.Dice, c api.Cellar) {
		if len(c.Lots) == api.MaxCellarLots {
			c.Lots = c.Lots[:api.MaxCellarLots-1]
			c.Room = min(c.Room, len(c.Lots))
		}
		for lot := range c.Lots {
			more := with(c, func(c *api.Cellar) {
				other := c.Lots[lot]
				other.Fruits = 1
				c.Lots = append(c.Lots, other)
			})
			if fruit := fruitOf(t, c, nil, lot); worthOf(t, c, nil)+fruit != worthOf(t, more, nil) {
				t.Errorf("Fruit of %v, %d = %d; Worth is %d, of %v it is %d", c, lot, fruit, worthOf(t, c, nil), more, worthOf(t, more, nil))
			}
		}
	}
	eachCellar(expect)
	eachLarge(expect)
	eachLarge(func(d *cases.Dice, c api.Cellar) {
		expect(d, with(c, func(c *api.Cellar) {
			for lot := range c.Lots {
				c.Lots[lot].Fruits = api.MaxCellarFruits
			}
		}))
	})
}

// P5.7: one more guest, also where there are as many as there can be: all of one day but a few are served by a lot of their own.
func TestMoreGuestsThanCanBe(t *testing.T) {
	d := cases.Dice(57)
	for range 200 {
		days, lots := 1+d.Below(3), d.Below(4)
		c := throwCellar(&d, days, lots, 2)
		day, guests := d.Below(days), d.Below(3)
		c.Guests[day] = guests
		crowded := with(c, func(c *api.Cellar) {
			c.Guests[day] = api.MaxCellarGuests
			c.Lots = append(c.Lots, lot(api.MaxCellarGuests-guests, day, day, api.MaxCellarWorth, 0))
		})
		if n, m := guestOf(t, c, nil, day), guestOf(t, crowded, nil, day); n != m {
			t.Errorf("Guest of %v, %d = %d; of %v it is %d", c, day, n, crowded, m)
		}
	}
}

// P5.15 (split lots): one lot is as good as two.
func TestSplitLots(t *testing.T) {
	test := func(d *cases.Dice, c api.Cellar) {
		if len(c.Lots) == 0 {
			return
		}
		if len(c.Lots) == api.MaxCellarLots {
			c.Lots = c.Lots[1:]
		}
		c.Room = api.MaxCellarLots
		cold := throwCold(d, c)
		at := d.Below(len(c.Lots))
		split := with(c, func(c *api.Cellar) {
			other := c.Lots[at]
			other.Fruits = d.Below(other.Fruits + 1)
			c.Lots[at].Fruits -= other.Fruits
			c.Lots = append(c.Lots, other)
		})
		both := cold
		if slices.Contains(cold, at) {
			both = append(slices.Clone(cold), len(c.Lots))
		}
		if worthOf(t, c, cold) != worthOf(t, split, both) || fedOf(t, c, cold) != fedOf(t, split, both) {
			t.Errorf("%v, %v: Worth is %d, Fed %d; of %v, %v %d and %d", c, cold, worthOf(t, c, cold), fedOf(t, c, cold), split, both, worthOf(t, split, both), fedOf(t, split, both))
		}
	}
	eachCellar(test)
	eachLarge(test)
}

// P5.15 (split lots): the order of lots.
func TestAnyOrder(t *testing.T) {
	test := func(d *cases.Dice, c api.Cellar) {
		cold := throwCold(d, c)
		places := d.Shuffled(len(c.Lots))
		other := with(c, func(c *api.Cellar) { c.Lots = cases.Pick(c.Lots, places) })
		var turned []int
		for number, was := range places {
			if slices.Contains(cold, was) {
				turned = append(turned, number)
			}
		}
		if worthOf(t, c, cold) != worthOf(t, other, turned) || fedOf(t, c, cold) != fedOf(t, other, turned) || bestOf(t, c) != bestOf(t, other) {
			t.Errorf("%v, %v: Worth is %d, Fed %d, Best %d; of %v, %v %d, %d and %d", c, cold, worthOf(t, c, cold), fedOf(t, c, cold), bestOf(t, c), other, turned, worthOf(t, other, turned), fedOf(t, other, turned), bestOf(t, other))
		}
		if must, back := chosen(t, cellar.Must, c), cases.Back(chosen(t, cellar.Must, other), places); !slices.Equal(must, back) {
			t.Errorf("Must of %v = %v; of %v it is %v of these", c, must, other, back)
		}
	}
	eachCellar(test)
	eachLarge(test)
}

// P5.16 (the cold room)
func TestBestColdRoom(t *testing.T) {
	eachCellar(func(_ *cases.Dice, c api.Cellar) {
		best, choose, must := bestOf(t, c), chosen(t, cellar.Choose, c), chosen(t, cellar.Must, c)
		for _, cold := range allColds(c) {
			if worth := worthOf(t, c, cold); worth > best {
				t.Errorf("%v: Worth of %v is %d, Best %d", c, cold, worth, best)
			}
		}
		if worthOf(t, c, choose) != best || !cases.Subset(must, choose) || !slices.IsSorted(must) {
			t.Errorf("%v: Choose is %v, Must %v, Best %d", c, choose, must, best)
		}
		last := 0
		for room := range api.MaxCellarLots + 1 {
			best := bestOf(t, with(c, func(c *api.Cellar) { c.Room = room }))
			if best < last || room == 0 && best != worthOf(t, c, nil) {
				t.Errorf("%v: Best with the Room %d is %d; with less it is %d", c, room, best, last)
			}
			last = best
		}
		c.Cold = 0
		if bestOf(t, c) != worthOf(t, c, nil) || len(chosen(t, cellar.Choose, c)) > 0 {
			t.Errorf("%v: Best is %d, Choose %v; Worth is %d", c, bestOf(t, c), chosen(t, cellar.Choose, c), worthOf(t, c, nil))
		}
	})
}

// P5.17 (all days)
func TestAllDays(t *testing.T) {
	test := func(d *cases.Dice, c api.Cellar) {
		cold := throwCold(d, c)
		guests, fruits := 0, 0
		for _, many := range c.Guests {
			guests += many
		}
		for _, l := range c.Lots {
			fruits += l.Fruits
		}
		fed := fedOf(t, c, cold)
		enough, e := cellar.Enough(c, cold)
		if fed > guests || fed > fruits || enough != (fed == guests) || e != api.OK {
			t.Errorf("%v, %v: Fed is %d, Enough %t, %d", c, cold, fed, enough, e)
		}
		same := with(c, func(c *api.Cellar) {
			for lot := range c.Lots {
				c.Lots[lot].Worth, c.Lots[lot].Fall = 1, 0
			}
		})
		if worth := worthOf(t, same, cold); worth != fed || fedOf(t, same, cold) != fed {
			t.Errorf("%v, %v: Fed is %d; Worth of %v is %d, Fed %d", c, cold, fed, same, worth, fedOf(t, same, cold))
		}
	}
	eachCellar(test)
	eachLarge(test)
}

// P5.18 (eaten)
func TestEaten(t *testing.T) {
	test := func(d *cases.Dice, c api.Cellar) {
		cold := throwCold(d, c)
		meals, _ := cellar.Plan(c, cold)
		for lot, l := range c.Lots {
			eaten, e := cellar.Eaten(c, cold, lot)
			many, _ := eatenBy(meals, lot, -1)
			if many < eaten.Low || many > eaten.High || eaten.Low < 0 || eaten.High > l.Fruits || e != api.OK {
				t.Errorf("%v, %v: Plan %v; Eaten of %d is %v, %d", c, cold, meals, lot, eaten, e)
			}
			if fruit := fruitOf(t, c, cold, lot); fruit < 0 || fruit > 0 && eaten != span(l.Fruits, l.Fruits) {
				t.Errorf("%v, %v: Fruit of %d is %d, Eaten %v", c, cold, lot, fruit, eaten)
			}
		}
	}
	eachCellar(test)
	eachLarge(test)
}

// R4: no argument is changed, and no result is a part of one.
func TestNewMemory(t *testing.T) {
	eachCellar(func(d *cases.Dice, c api.Cellar) {
		cold := throwCold(d, c)
		meals, _ := cellar.Plan(c, cold)
		was, wasCold, wasMeals := with(c, func(*api.Cellar) {}), slices.Clone(cold), slices.Clone(meals)
		for number := range 4 {
			calls(c, asked{cold, number, meals})
		}
		cases.Spoil(chosen(t, cellar.Choose, c))
		cases.Spoil(chosen(t, cellar.Must, c))
		if !reflect.DeepEqual(c, was) || !slices.Equal(cold, wasCold) || !slices.Equal(meals, wasMeals) {
			t.Errorf("%v, %v, %v came to be %v, %v, %v", was, wasCold, wasMeals, c, cold, meals)
		}
	})
}

// The same arguments have the same results.
func TestTheSameAgain(t *testing.T) {
	eachCellar(func(d *cases.Dice, c api.Cellar) {
		cold := throwCold(d, c)
		meals, _ := cellar.Plan(c, cold)
		if again, _ := cellar.Plan(c, cold); !slices.Equal(meals, again) {
			t.Errorf("Plan of %v, %v = %v, and again %v", c, cold, meals, again)
		}
		x := asked{cold, 0, meals}
		if outcomes, again := calls(c, x), calls(c, x); !slices.Equal(outcomes, again) {
			t.Errorf("%v, %v: %v, and again %v", c, cold, outcomes, again)
		}
	})
}

// R3: nil and empty lists are the same.
func TestNilAndEmpty(t *testing.T) {
	for _, c := range []api.Cellar{{}, {Cold: 1, Room: 6}} {
		empty := c
		empty.Guests, empty.Lots = []int{}, []api.CellarLot{}
		outcomes := calls(c, asked{})
		if others := calls(empty, asked{[]int{}, 0, []api.CellarMeal{}}); !slices.Equal(outcomes, others) {
			t.Errorf("%v of empty; %v of nil", others, outcomes)
		}
	}
	outcomes := calls(houseC(), asked{})
	if others := calls(houseC(), asked{[]int{}, 0, []api.CellarMeal{}}); !slices.Equal(outcomes, others) {
		t.Errorf("%v of empty; %v of nil", others, outcomes)
	}
}

// spoilt returns a cellar of which one thing, or all, is as it comes.
func spoilt(d *cases.Dice, c api.Cellar) api.Cellar {
	what := d.Below(5)
	if what == 0 || what == 4 {
		c.Guests = d.Odds()
	}
	if what == 1 || what == 4 {
		c.Lots = nil
		for range d.Below(8) {
			c.Lots = append(c.Lots, lot(d.Odd(), d.Odd(), d.Odd(), d.Odd(), d.Odd()))
		}
	}
	if what == 2 || what == 4 {
		c.Cold = d.Odd()
	}
	if what == 3 || what == 4 {
		c.Room = d.Odd()
	}
	return c
}

// P1 (DOC.md): every function terminates, and none panics, whatever its arguments are; R2 holds for them, too.
func TestAnyArguments(t *testing.T) {
	eachCellar(func(d *cases.Dice, c api.Cellar) {
		if d.Below(4) > 0 {
			c = spoilt(d, c)
		}
		for range 3 {
			x := asked{d.Odds(), d.Odd(), nil}
			if d.Below(2) == 0 {
				x.cold = nil
			}
			for range d.Below(4) {
				x.plan = append(x.plan, meal(d.Odd(), d.Odd(), d.Odd()))
			}
			cases.ExpectNothingElse(t, calls(c, x), c, x)
		}
	})
	long := house(make([]int, 1<<20), 0, 0, make([]api.CellarLot, 1<<20)...)
	cases.ExpectError(t, "long lists", calls(long, asked{make([]int, 1<<20), 0, make([]api.CellarMeal, 1<<20)}), api.ErrCellar)
}
