package cellar_test

import (
	"math"
	"slices"
	"testing"

	"pippin/api"
	"pippin/cases"
	"pippin/cellar"
)

// list keeps the tables below short.
func list(numbers ...int) []int { return numbers }

func lot(fruits, ripe, last, worth, fall int) api.CellarLot {
	return api.CellarLot{Fruits: fruits, Ripe: ripe, Last: last, Worth: worth, Fall: fall}
}

func meal(day, lot, fruits int) api.CellarMeal {
	return api.CellarMeal{Day: day, Lot: lot, Fruits: fruits}
}

func plan(meals ...api.CellarMeal) []api.CellarMeal { return meals }

func span(low, high int) api.Span { return api.Span{Low: low, High: high} }

func house(guests []int, cold, room int, lots ...api.CellarLot) api.Cellar {
	return api.Cellar{Guests: guests, Lots: lots, Cold: cold, Room: room}
}

// houseC and houseD are C and D of the chapter's examples.
func houseC() api.Cellar {
	return house(list(2, 1, 2), 1, 1, lot(2, 0, 1, 5, 1), lot(3, 0, 2, 3, 0), lot(1, 1, 1, 9, 0))
}

func houseD() api.Cellar { return house(list(1, 1), 1, 1, lot(1, 0, 0, 7, 0), lot(1, 0, 0, 6, 0)) }

// with returns a cellar of which something was changed, and that shares no memory with the given one.
func with(c api.Cellar, change func(c *api.Cellar)) api.Cellar {
	c.Guests, c.Lots = slices.Clone(c.Guests), slices.Clone(c.Lots)
	change(&c)
	return c
}

// full has as much of everything as there can be.
func full() api.Cellar {
	c := house(slices.Repeat(list(api.MaxCellarGuests), api.MaxCellarDays), 3, api.MaxCellarLots)
	for number := range api.MaxCellarLots {
		c.Lots = append(c.Lots, lot(api.MaxCellarFruits, number, number+4, api.MaxCellarWorth-2*number, 5+number))
	}
	return c
}

// ladder has lots that are worth the most on the day ahead of that on which they have to be eaten, so that the last lot, which is for the first day alone, is eaten too.
func ladder() api.Cellar {
	return house(list(0, 1, 1, 1, 1), 0, 0, lot(1, 1, 2, 20, 1), lot(1, 2, 3, 20, 1), lot(1, 3, 4, 20, 1), lot(1, 1, 1, 10, 0))
}

// asked is the lots in the cold room, the day or the lot that is asked for, and the plan.
type asked struct {
	cold   []int
	number int
	plan   []api.CellarMeal
}

// calls calls all functions.
func calls(c api.Cellar, x asked) []cases.Outcome {
	value, good, e1 := cellar.Good(c, x.cold, x.plan)
	worth, e2 := cellar.Worth(c, x.cold)
	meals, e3 := cellar.Plan(c, x.cold)
	fed, e4 := cellar.Fed(c, x.cold)
	enough, e5 := cellar.Enough(c, x.cold)
	guest, e6 := cellar.Guest(c, x.cold, x.number)
	fruit, e7 := cellar.Fruit(c, x.cold, x.number)
	eaten, e8 := cellar.Eaten(c, x.cold, x.number)
	best, e9 := cellar.Best(c)
	choose, e10 := cellar.Choose(c)
	must, e11 := cellar.Must(c)
	return []cases.Outcome{
		cases.Got("Check", 0, cellar.Check(c)), cases.Got("Good", value+truth(good), e1), cases.Got("Worth", worth, e2), cases.Got("Plan", len(meals), e3), cases.Got("Fed", fed, e4), cases.Got("Enough", truth(enough), e5),
		cases.Got("Guest", guest, e6), cases.Got("Fruit", fruit, e7), cases.Got("Eaten", eaten.Low+eaten.High, e8), cases.Got("Best", best, e9), cases.Got("Choose", len(choose), e10), cases.Got("Must", len(must), e11),
	}
}

// truth returns 1 of what is so.
func truth(is bool) int {
	if is {
		return 1
	}
	return 0
}

// P5.1: what is valid, up to each limit.
func TestCheckTakesValid(t *testing.T) {
	for name, c := range map[string]api.Cellar{
		"nothing":             {},
		"C":                   houseC(),
		"D":                   houseD(),
		"full":                full(),
		"days alone":          house(make([]int, api.MaxCellarDays), 0, 0),
		"the latest lots":     house(nil, api.MaxCellarDay, api.MaxCellarLots, slices.Repeat([]api.CellarLot{lot(20, 20, 20, 99, 99)}, api.MaxCellarLots)...),
		"the longest lot":     house(nil, 0, 0, lot(0, 0, 20, 80, 4)),
		"the worthless lot":   house(nil, 0, 0, lot(20, 0, 20, 0, 0)),
		"falls to nothing":    house(nil, 0, 0, lot(1, 3, 4, 99, 99)),
		"falls from nothing":  house(nil, 0, 0, lot(1, 5, 5, 0, 99)),
		"more room than lots": house(list(1), 0, 6, lot(1, 0, 0, 1, 0)),
	} {
		if e := cellar.Check(c); e != api.OK {
			t.Errorf("%s: Check = %d", name, e)
		}
	}
}

// wrongCellars are not valid, each for one reason.
func wrongCellars() map[string]api.Cellar {
	of := func(change func(c *api.Cellar)) api.Cellar { return with(houseC(), change) }
	lots := func(l api.CellarLot) api.Cellar { return of(func(c *api.Cellar) { c.Lots[2] = l }) }
	return map[string]api.Cellar{
		"too many days":        of(func(c *api.Cellar) { c.Guests = make([]int, api.MaxCellarDays+1) }),
		"guests below":         of(func(c *api.Cellar) { c.Guests[2] = -1 }),
		"guests above":         of(func(c *api.Cellar) { c.Guests[0] = api.MaxCellarGuests + 1 }),
		"too many lots":        of(func(c *api.Cellar) { c.Lots = slices.Repeat(c.Lots[:1], api.MaxCellarLots+1) }),
		"Cold below":           of(func(c *api.Cellar) { c.Cold = -1 }),
		"Cold above":           of(func(c *api.Cellar) { c.Cold = api.MaxCellarDay + 1 }),
		"Room below":           of(func(c *api.Cellar) { c.Room = -1 }),
		"Room above":           of(func(c *api.Cellar) { c.Room = api.MaxCellarLots + 1 }),
		"fruits below":         lots(lot(-1, 0, 0, 1, 0)),
		"fruits above":         lots(lot(api.MaxCellarFruits+1, 0, 0, 1, 0)),
		"Ripe below":           lots(lot(1, -1, 0, 1, 0)),
		"Ripe behind Last":     lots(lot(1, 2, 1, 1, 0)),
		"Last above":           lots(lot(1, 2, api.MaxCellarDay+1, 1, 0)),
		"Ripe and Last above":  lots(lot(1, api.MaxCellarDay+1, api.MaxCellarDay+1, 1, 0)),
		"Worth below":          lots(lot(1, 0, 0, -1, 0)),
		"Worth above":          lots(lot(1, 0, 0, api.MaxCellarWorth+1, 0)),
		"Fall below":           lots(lot(1, 0, 1, 1, -1)),
		"Fall above":           lots(lot(1, 0, 0, 99, api.MaxCellarWorth+1)),
		"falls below nothing":  lots(lot(1, 0, 20, 79, 4)),
		"falls on its 2nd day": lots(lot(1, 7, 8, 1, 2)),
		"a product too large":  lots(lot(1, 0, 2, 1, math.MaxInt)),
		"another one":          lots(lot(1, 0, 2, 1, math.MinInt)),
		"a difference":         lots(lot(1, math.MinInt, math.MaxInt, 1, 1)),
		"the first lot":        of(func(c *api.Cellar) { c.Lots[0].Fruits = -1 }),
	}
}

// P5.1, R1, R2: ErrCellar comes before ErrArg.
func TestWrongCellars(t *testing.T) {
	for name, c := range wrongCellars() {
		for _, x := range []asked{{nil, 0, nil}, {list(-1), 0, nil}, {list(1, 0), 99, plan(meal(0, 0, 1))}} {
			cases.ExpectError(t, name, calls(c, x), api.ErrCellar)
		}
	}
}

// ErrArg: lots that cannot be in the cold room together, days and lots that are none.
func TestWrongArguments(t *testing.T) {
	roomy := with(houseC(), func(c *api.Cellar) { c.Room = 6 })
	for name, x := range map[string]struct {
		c    api.Cellar
		cold []int
	}{
		"a lot below":         {houseC(), list(-1)},
		"a lot above":         {houseC(), list(3)},
		"the last lot above":  {roomy, list(0, 1, 3)},
		"the first lot below": {roomy, list(-1, 0)},
		"far off":             {roomy, list(math.MinInt, math.MaxInt)},
		"descending":          {roomy, list(1, 0)},
		"twice":               {roomy, list(1, 1)},
		"descending later":    {roomy, list(0, 2, 1)},
		"more than Room":      {houseC(), list(0, 1)},
		"more than no room":   {with(houseC(), func(c *api.Cellar) { c.Room = 0 }), list(0)},
		"more than lots":      {roomy, list(0, 1, 2, 3)},
		"no lots":             {house(list(1), 0, 1), list(0)},
		"a long list":         {roomy, make([]int, 1<<20)},
	} {
		cases.ExpectError(t, name, calls(x.c, asked{x.cold, 0, nil}), api.ErrArg, "Good", "Worth", "Plan", "Fed", "Enough", "Guest", "Fruit", "Eaten")
	}
	for _, number := range list(-1, 3, 99, math.MinInt, math.MaxInt) {
		cases.ExpectError(t, "no number of C", calls(houseC(), asked{list(0), number, nil}), api.ErrArg, "Guest", "Fruit", "Eaten")
	}
	days, lots := house(list(1, 1), 0, 0, lot(1, 0, 0, 1, 0)), house(list(1), 0, 0, lot(1, 0, 0, 1, 0), lot(1, 0, 0, 1, 0))
	cases.ExpectError(t, "a day, but no lot", calls(days, asked{nil, 1, nil}), api.ErrArg, "Fruit", "Eaten")
	cases.ExpectError(t, "a lot, but no day", calls(lots, asked{nil, 1, nil}), api.ErrArg, "Guest")
	cases.ExpectError(t, "nothing", calls(api.Cellar{}, asked{}), api.ErrArg, "Guest", "Fruit", "Eaten")
}

// P5.2
func TestGood(t *testing.T) {
	one := house(list(1, 0, 1), 0, 0, lot(1, 0, 2, 8, 3), lot(2, 0, 0, 4, 0))
	for name, x := range map[string]struct {
		c     api.Cellar
		cold  []int
		plan  []api.CellarMeal
		worth int
		good  bool
	}{
		"none":                    {houseC(), nil, nil, 0, true},
		"none without lots":       {api.Cellar{}, nil, nil, 0, true},
		"the example":             {houseC(), nil, plan(meal(0, 0, 2), meal(1, 2, 1), meal(2, 1, 2)), 25, true},
		"two lots on a day":       {houseC(), nil, plan(meal(0, 0, 1), meal(0, 1, 1), meal(1, 0, 1)), 12, true},
		"it falls":                {one, nil, plan(meal(2, 0, 1)), 2, true},
		"in the cold room":        {houseC(), list(0), plan(meal(0, 1, 2), meal(1, 0, 1), meal(2, 0, 1)), 15, true},
		"worth nothing":           {house(list(2), 0, 0, lot(2, 0, 0, 0, 0)), nil, plan(meal(0, 0, 2)), 0, true},
		"too early by the cold":   {houseC(), list(0), plan(meal(0, 0, 1)), 0, false},
		"too early":               {houseC(), nil, plan(meal(0, 2, 1)), 0, false},
		"too late":                {houseC(), nil, plan(meal(0, 0, 1), meal(2, 0, 1)), 0, false},
		"cold, but not this lot":  {houseC(), list(1), plan(meal(2, 0, 1)), 0, false},
		"days descend":            {houseC(), nil, plan(meal(1, 2, 1), meal(0, 0, 2)), 0, false},
		"lots descend":            {houseC(), nil, plan(meal(0, 1, 1), meal(0, 0, 1)), 0, false},
		"a meal twice":            {houseC(), nil, plan(meal(0, 1, 1), meal(0, 1, 1)), 0, false},
		"its fruits differ":       {houseC(), nil, plan(meal(2, 1, 1), meal(2, 1, 2)), 0, false},
		"more than guests":        {houseC(), nil, plan(meal(0, 1, 3)), 0, false},
		"more than them together": {houseC(), nil, plan(meal(0, 0, 1), meal(0, 1, 2)), 0, false},
		"no guests":               {one, nil, plan(meal(1, 0, 1)), 0, false},
		"more than fruits":        {houseC(), nil, plan(meal(1, 2, 2)), 0, false},
		"more of a lot":           {one, nil, plan(meal(0, 0, 1), meal(2, 0, 1)), 0, false},
		"no fruits":               {houseC(), nil, plan(meal(0, 1, 0)), 0, false},
		"fewer than none":         {houseC(), nil, plan(meal(0, 1, -1), meal(1, 1, 1)), 0, false},
		"a day above":             {houseC(), nil, plan(meal(3, 1, 1)), 0, false},
		"a day below":             {houseC(), nil, plan(meal(-1, 1, 1)), 0, false},
		"a day of a lot alone":    {house(list(1), 0, 0, lot(1, 0, 9, 5, 0)), nil, plan(meal(1, 0, 1)), 0, false},
		"a lot above":             {houseC(), nil, plan(meal(0, 3, 1)), 0, false},
		"a lot below":             {houseC(), nil, plan(meal(0, -1, 1)), 0, false},
		"sums too large":          {houseC(), nil, plan(meal(0, 0, math.MaxInt), meal(0, 1, math.MaxInt), meal(1, 0, 2)), 0, false},
		"a long plan":             {houseC(), nil, make([]api.CellarMeal, 1<<20), 0, false},
	} {
		worth, good, e := cellar.Good(x.c, x.cold, x.plan)
		if worth != x.worth || good != x.good || e != api.OK {
			t.Errorf("%s: Good = %d, %t, %d", name, worth, good, e)
		}
	}
}

// P5.3 to P5.9
func TestMeals(t *testing.T) {
	for name, x := range map[string]struct {
		c            api.Cellar
		cold         []int
		worth, fed   int
		enough       bool
		guest, fruit []int // of each day, and of each lot
		eaten        []api.Span
	}{
		"nothing":             {api.Cellar{}, nil, 0, 0, true, nil, nil, nil},
		"no guests":           {house(list(0, 0), 0, 0, lot(2, 0, 1, 5, 0)), nil, 0, 0, true, list(5, 5), list(0), []api.Span{span(0, 0)}},
		"no lots":             {house(list(1, 0), 0, 0), nil, 0, 0, false, list(0, 0), nil, nil},
		"no fruits":           {house(list(1), 0, 0, lot(0, 0, 1, 5, 1)), nil, 0, 0, false, list(0), list(5), []api.Span{span(0, 0)}},
		"C":                   {houseC(), nil, 25, 5, true, list(3, 3, 3), list(0, 0, 0), []api.Span{span(2, 2), span(2, 2), span(1, 1)}},
		"C, 0 cold":           {houseC(), list(0), 23, 5, true, list(3, 4, 3), list(0, 0, 0), []api.Span{span(2, 2), span(2, 2), span(1, 1)}},
		"C, 2 cold":           {houseC(), list(2), 25, 5, true, list(3, 3, 3), list(1, 0, 6), []api.Span{span(2, 2), span(2, 2), span(1, 1)}},
		"D":                   {houseD(), nil, 7, 1, false, list(6, 0), list(0, 0), []api.Span{span(1, 1), span(0, 0)}},
		"D, 1 cold":           {houseD(), list(1), 13, 2, true, list(0, 0), list(0, 0), []api.Span{span(1, 1), span(1, 1)}},
		"two alike":           {house(list(3), 0, 0, lot(2, 0, 0, 4, 0), lot(2, 0, 0, 4, 0)), nil, 12, 3, true, list(4), list(0, 0), []api.Span{span(1, 2), span(1, 2)}},
		"worth nothing":       {house(list(2), 0, 0, lot(3, 0, 5, 0, 0)), nil, 0, 2, true, list(0), list(0), []api.Span{span(0, 2)}},
		"nothing, and more":   {house(list(3), 0, 0, lot(3, 0, 0, 0, 0), lot(1, 0, 0, 2, 0)), nil, 2, 3, true, list(0), list(0, 2), []api.Span{span(0, 2), span(1, 1)}},
		"fewer are worth":     {house(list(1, 1), 0, 0, lot(1, 0, 1, 9, 9), lot(1, 0, 0, 3, 0)), nil, 9, 2, true, list(3, 0), list(0, 0), []api.Span{span(1, 1), span(0, 0)}},
		"a later day":         {house(list(1, 1), 0, 0, lot(1, 0, 1, 10, 1), lot(1, 0, 0, 8, 0)), nil, 17, 2, true, list(1, 0), list(2, 0), []api.Span{span(1, 1), span(1, 1)}},
		"too late for guests": {house(list(1, 1), 20, 1, lot(1, 0, 1, 10, 1)), list(0), 0, 0, false, list(0, 0), list(0), []api.Span{span(0, 0)}},
		"the cold too long":   {house(list(9, 9), 1, 1, lot(9, 0, 0, 2, 0), lot(9, 1, 1, 1, 0)), list(1), 18, 9, false, list(0, 0), list(0, 0), []api.Span{span(9, 9), span(0, 0)}},
		"all move on":         {ladder(), nil, 10 + 3*19, 4, true, list(0, 3, 2, 1, 0), list(10, 11, 12, 0), []api.Span{span(1, 1), span(1, 1), span(1, 1), span(1, 1)}},
		"as many as can be":   {house(list(20, 20), 0, 0, lot(20, 0, 0, 5, 0), lot(20, 0, 0, 3, 0)), nil, 100, 20, false, list(3, 0), list(0, 0), []api.Span{span(20, 20), span(0, 0)}},
		"and more guests":     {house(list(20), 0, 0, lot(20, 0, 0, 99, 0)), nil, 1980, 20, true, list(0), list(0), []api.Span{span(20, 20)}},
		"and more fruits":     {house(list(20, 1), 0, 0, lot(20, 0, 1, 99, 1), lot(1, 0, 0, 3, 0)), nil, 19*99 + 98 + 3, 21, true, list(1, 0), list(96, 0), []api.Span{span(20, 20), span(1, 1)}},
	} {
		worth, e := cellar.Worth(x.c, x.cold)
		fed, f := cellar.Fed(x.c, x.cold)
		enough, g := cellar.Enough(x.c, x.cold)
		if worth != x.worth || fed != x.fed || enough != x.enough || e != api.OK || f != api.OK || g != api.OK {
			t.Errorf("%s: Worth = %d, %d; Fed = %d, %d; Enough = %t, %d", name, worth, e, fed, f, enough, g)
		}
		expectPlan(t, x.c, x.cold, x.worth)
		expectMore(t, x.c, x.cold, x.guest, x.fruit)
		expectEaten(t, x.c, x.cold, x.eaten)
	}
	want := plan(meal(0, 0, 2), meal(1, 2, 1), meal(2, 1, 2))
	if meals, e := cellar.Plan(houseC(), nil); !slices.Equal(meals, want) || e != api.OK {
		t.Errorf("Plan of C = %v, %d", meals, e)
	}
}

// expectPlan checks that Plan is good, and worth so much.
func expectPlan(t *testing.T, c api.Cellar, cold []int, want int) {
	t.Helper()
	meals, e := cellar.Plan(c, cold)
	if worth, good := judge(c, cold, meals); worth != want || !good || e != api.OK {
		t.Errorf("Plan of %v, %v = %v, %d, worth %d; want a good one worth %d", c, cold, meals, e, worth, want)
	}
}

func expectMore(t *testing.T, c api.Cellar, cold, guest, fruit []int) {
	t.Helper()
	for day, want := range guest {
		if n, e := cellar.Guest(c, cold, day); n != want || e != api.OK {
			t.Errorf("Guest of %v, %v, %d = %d, %d; want %d", c, cold, day, n, e, want)
		}
	}
	for lot, want := range fruit {
		if n, e := cellar.Fruit(c, cold, lot); n != want || e != api.OK {
			t.Errorf("Fruit of %v, %v, %d = %d, %d; want %d", c, cold, lot, n, e, want)
		}
	}
}

func expectEaten(t *testing.T, c api.Cellar, cold []int, spans []api.Span) {
	t.Helper()
	for lot, want := range spans {
		if eaten, e := cellar.Eaten(c, cold, lot); eaten != want || e != api.OK {
			t.Errorf("Eaten of %v, %v, %d = %v, %d; want %v", c, cold, lot, eaten, e, want)
		}
	}
}

// P5.10 to P5.12
func TestColdRoom(t *testing.T) {
	late := func(room int) api.Cellar {
		return house(list(0, 0, 1, 1), 2, room, lot(1, 0, 0, 5, 0), lot(1, 1, 1, 4, 0), lot(1, 0, 1, 6, 3))
	}
	roomD := func(room int) api.Cellar { return with(houseD(), func(c *api.Cellar) { c.Room = room }) }
	// one of six lots alike is enough on the second day
	row := house(list(1, 1), 1, 6, slices.Repeat([]api.CellarLot{lot(1, 0, 0, 3, 0)}, 6)...)
	for name, x := range map[string]struct {
		c            api.Cellar
		best         int
		choose, must []int
	}{
		"nothing":               {api.Cellar{}, 0, nil, nil},
		"room alone":            {house(nil, 20, 6), 0, nil, nil},
		"C":                     {houseC(), 25, nil, nil},
		"D":                     {houseD(), 13, list(0), nil},
		"D, no room":            {roomD(0), 7, nil, nil},
		"D, more room":          {roomD(6), 13, list(0), nil},
		"late, no room":         {late(0), 0, nil, nil},
		"late, one place":       {late(1), 6, list(2), list(2)},
		"late, two places":      {late(2), 10, list(1, 2), list(1, 2)},
		"late, more room":       {late(6), 10, list(1, 2), list(1, 2)},
		"nothing is cold":       {with(late(6), func(c *api.Cellar) { c.Cold = 0 }), 0, nil, nil},
		"too cold":              {house(list(0, 1), 2, 1, lot(1, 0, 0, 7, 0)), 0, nil, nil},
		"the first of equals":   {house(list(0, 1), 1, 1, lot(0, 0, 0, 7, 0), lot(1, 0, 0, 7, 0), lot(1, 0, 0, 7, 0)), 7, list(1), nil},
		"one for both":          {house(list(0, 2), 1, 2, lot(1, 0, 0, 4, 0), lot(1, 0, 0, 3, 0), lot(2, 0, 0, 4, 0)), 8, list(2), list(2)},
		"one of two is enough":  {house(list(0, 1, 1), 1, 2, lot(1, 0, 0, 4, 0), lot(1, 1, 1, 5, 0), lot(1, 0, 0, 4, 0)), 9, list(0, 1), list(1)},
		"the last ones":         {house(list(0, 0, 0, 9), 3, 3, lot(1, 0, 0, 1, 0), lot(1, 0, 0, 1, 0), lot(1, 0, 0, 1, 0), lot(3, 0, 0, 9, 0), lot(3, 0, 0, 9, 0), lot(3, 0, 0, 9, 0)), 81, list(3, 4, 5), list(3, 4, 5)},
		"all of them":           {house(list(0, 6), 1, 6, slices.Repeat([]api.CellarLot{lot(1, 0, 0, 3, 0)}, 6)...), 18, list(0, 1, 2, 3, 4, 5), list(0, 1, 2, 3, 4, 5)},
		"six to choose from":    {row, 6, list(0), nil},
		"cold on the first day": {house(list(1, 2), 1, 2, lot(1, 0, 0, 5, 0), lot(2, 0, 0, 4, 0)), 13, list(1), list(1)},
	} {
		best, e := cellar.Best(x.c)
		choose, f := cellar.Choose(x.c)
		must, g := cellar.Must(x.c)
		if best != x.best || !slices.Equal(choose, x.choose) || !slices.Equal(must, x.must) || e != api.OK || f != api.OK || g != api.OK {
			t.Errorf("%s: Best = %d, %d; Choose = %v, %d; Must = %v, %d", name, best, e, choose, f, must, g)
		}
	}
}
