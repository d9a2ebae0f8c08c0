package lost_test

import (
	"math"
	"slices"
	"testing"

	"pippin/api"
	"pippin/cases"
	"pippin/lost"
)

// list keeps the tables below short.
func list(numbers ...int) []int { return numbers }

func span(low, high int) api.Span { return api.Span{Low: low, High: high} }

func gift(from, to, year, took int) api.LostGift {
	return api.LostGift{From: from, To: to, Year: year, Took: took}
}

func gifts(all ...api.LostGift) []api.LostGift { return all }

func look(garden, year, found int) api.LostLook {
	return api.LostLook{Garden: garden, Year: year, Found: found}
}

// searchS and searchT are S and T of the chapter's examples.
func searchS() api.LostSearch {
	return api.LostSearch{
		Gardens: 4, First: list(0), Lives: 10,
		Gifts: gifts(gift(0, 1, 5, api.Perhaps), gift(1, 2, 8, api.Perhaps), gift(0, 3, 9, api.Surely), gift(3, 2, 12, api.Perhaps)),
	}
}

func searchT() api.LostSearch { return seen(searchS(), look(1, 7, 1), look(2, 10, 0)) }

// with returns a search of which something was changed, and that shares no memory with the given one.
func with(x api.LostSearch, change func(x *api.LostSearch)) api.LostSearch {
	x.First, x.Gifts, x.Looks = slices.Clone(x.First), slices.Clone(x.Gifts), slices.Clone(x.Looks)
	change(&x)
	return x
}

// seen returns a search with some more looks.
func seen(x api.LostSearch, looks ...api.LostLook) api.LostSearch {
	return with(x, func(x *api.LostSearch) { x.Looks = append(x.Looks, looks...) })
}

// row is a search with so many gardens, the first of which has the first tree, and trees that stand for so many years.
func row(gardens, lives int, all ...api.LostGift) api.LostSearch {
	return api.LostSearch{Gardens: gardens, First: list(0), Lives: lives, Gifts: all}
}

// full has as much of everything as there can be, and 2^12 truths.
func full() api.LostSearch {
	x := api.LostSearch{Gardens: api.MaxLostGardens, First: list(0, 1, 2, 3, 4, 5, 6, 7), Lives: api.MaxLostYear}
	for number := range api.MaxLostGifts {
		x.Gifts = append(x.Gifts, gift(number%8, (number+1)%8, api.MaxLostYear-number, api.Perhaps))
	}
	for number := range api.MaxLostLooks {
		x.Looks = append(x.Looks, look(number, api.MaxLostYear-13, 1))
	}
	return x
}

// ring goes round three gardens, and comes again to the first one after its tree is gone.
func ring() api.LostSearch {
	return row(3, 4, gift(0, 1, 2, 3), gift(1, 2, 4, 3), gift(2, 0, 6, 3), gift(0, 1, 9, 3))
}

// short cuts off a way of three gifts by one of a later year.
func short() api.LostSearch {
	return row(5, 9, gift(0, 1, 1, 3), gift(1, 2, 2, 3), gift(2, 3, 3, 3), gift(0, 3, 5, 3), gift(3, 4, 7, 1))
}

// surely returns a search in which all gifts surely took, so that it has one truth.
func surely(x api.LostSearch) api.LostSearch {
	return with(x, func(x *api.LostSearch) {
		for number := range x.Gifts {
			x.Gifts[number].Took = api.Surely
		}
	})
}

// branched has a long way to the garden 3, from the tree of which wood goes to two gardens.
func branched() api.LostSearch {
	return row(6, 9, gift(0, 1, 1, 3), gift(1, 2, 2, 3), gift(2, 3, 3, 3), gift(3, 4, 4, 3), gift(3, 5, 5, 3))
}

// fork has a way of one gift and a way of two to the garden 3, by trees that came in different years; no wood ever came to the gardens 4 and 5.
func fork() api.LostSearch {
	return seen(row(6, 20, gift(0, 3, 8, 3), gift(0, 2, 3, 3), gift(2, 3, 6, 3), gift(4, 5, 1, 3)), look(2, 9, 1), look(3, 5, 0))
}

// asked is what took, the garden or the gift that is asked for, and the year.
type asked struct {
	took         []int
	number, year int
}

// calls calls all functions.
func calls(x api.LostSearch, a asked) []cases.Outcome {
	stands, e1 := lost.Run(x, a.took, a.year)
	many, e2 := lost.Many(x)
	where, e3 := lost.Where(x, a.number, a.year)
	sure, perhaps, e4 := lost.Sure(x, a.year)
	last, e5 := lost.Last(x)
	took, e6 := lost.Took(x, a.number)
	ask, e7 := lost.Ask(x, a.year)
	tour, e8 := lost.Tour(x, a.year)
	way, e9 := lost.Way(x, a.number, a.year)
	chain, e10 := lost.Chain(x, a.number, a.year)
	return []cases.Outcome{
		cases.Got("Check", 0, lost.Check(x)), cases.Got("Run", len(stands), e1), cases.Got("Many", many, e2), cases.Got("Where", where, e3), cases.Got("Sure", len(sure)+len(perhaps), e4), cases.Got("Last", last.Low+last.High, e5),
		cases.Got("Took", took, e6), cases.Got("Ask", ask, e7), cases.Got("Tour", len(tour), e8), cases.Got("Way", way, e9), cases.Got("Chain", len(chain), e10),
	}
}

// P7.1: what is valid, up to each limit.
func TestCheckTakesValid(t *testing.T) {
	for name, x := range map[string]api.LostSearch{
		"no garden":         {Lives: 1},
		"no first tree":     {Gardens: 2, Lives: 5, Gifts: gifts(gift(0, 1, 1, 1))},
		"S":                 searchS(),
		"T":                 searchT(),
		"full":              full(),
		"the least of all":  {Gardens: 2, First: list(0), Lives: 1, Gifts: gifts(gift(0, 1, 1, api.Surely)), Looks: []api.LostLook{look(0, 0, 0)}},
		"the most of all":   {Gardens: 8, First: list(7), Lives: 99, Gifts: slices.Repeat(gifts(gift(7, 6, 99, api.Perhaps)), 12), Looks: slices.Repeat([]api.LostLook{look(7, 99, 1)}, 8)},
		"a gift that never": row(2, 1, gift(1, 0, 1, api.Never)),
		"no truth":          seen(searchS(), look(0, 0, 0)),
		"looks that differ": seen(searchS(), look(1, 7, 0), look(1, 7, 1)),
	} {
		if e := lost.Check(x); e != api.OK {
			t.Errorf("%s: Check = %d", name, e)
		}
	}
}

// wrongSearches are not valid, each for one reason.
func wrongSearches() map[string]api.LostSearch {
	of := func(change func(x *api.LostSearch)) api.LostSearch { return with(searchT(), change) }
	gave := func(at int, g api.LostGift) api.LostSearch {
		return of(func(x *api.LostSearch) { x.Gifts[at] = g })
	}
	looked := func(at int, l api.LostLook) api.LostSearch {
		return of(func(x *api.LostSearch) { x.Looks[at] = l })
	}
	first := func(numbers ...int) api.LostSearch { return of(func(x *api.LostSearch) { x.First = numbers }) }
	return map[string]api.LostSearch{
		"nothing":             {},
		"gardens below":       {Gardens: -1, Lives: 1},
		"gardens above":       of(func(x *api.LostSearch) { x.Gardens = api.MaxLostGardens + 1 }),
		"gardens far off":     {Gardens: math.MinInt, Lives: 1},
		"fewer gardens":       of(func(x *api.LostSearch) { x.Gardens = 3 }),
		"a first one below":   first(-1, 0),
		"a first one above":   first(0, 4),
		"first ones turned":   first(1, 0),
		"a first one twice":   first(0, 1, 1),
		"first, but none":     {First: list(0), Lives: 1},
		"Lives below":         of(func(x *api.LostSearch) { x.Lives = 0 }),
		"Lives far below":     of(func(x *api.LostSearch) { x.Lives = math.MinInt }),
		"Lives above":         of(func(x *api.LostSearch) { x.Lives = api.MaxLostYear + 1 }),
		"too many gifts":      of(func(x *api.LostSearch) { x.Gifts = slices.Repeat(x.Gifts[:1], api.MaxLostGifts+1) }),
		"From below":          gave(0, gift(-1, 1, 5, 3)),
		"From above":          gave(3, gift(4, 1, 5, 3)),
		"To below":            gave(1, gift(0, -1, 5, 3)),
		"To above":            gave(2, gift(0, 4, 5, 3)),
		"to itself":           gave(3, gift(2, 2, 5, 3)),
		"a gift's year below": gave(0, gift(0, 1, 0, 3)),
		"a gift's year above": gave(0, gift(0, 1, api.MaxLostYear+1, 3)),
		"Took below":          gave(3, gift(0, 1, 5, 0)),
		"Took above":          gave(3, gift(0, 1, 5, 4)),
		"a gift far off":      gave(1, gift(math.MinInt, math.MaxInt, math.MaxInt, math.MinInt)),
		"too many looks":      of(func(x *api.LostSearch) { x.Looks = slices.Repeat(x.Looks[:1], api.MaxLostLooks+1) }),
		"a look's below":      looked(0, look(-1, 5, 1)),
		"a look's above":      looked(1, look(4, 5, 1)),
		"a look's year below": looked(0, look(1, -1, 0)),
		"a look's year above": looked(1, look(1, api.MaxLostYear+1, 0)),
		"Found below":         looked(1, look(1, 5, -1)),
		"Found above":         looked(0, look(1, 5, 2)),
	}
}

// P7.1, R1, R2: ErrLost comes before all others.
func TestWrongSearches(t *testing.T) {
	for name, x := range wrongSearches() {
		for _, a := range []asked{{nil, 0, 0}, {list(2), 0, 5}, {list(-1), -1, -1}, {list(1, 0), 99, 100}} {
			cases.ExpectError(t, name, calls(x, a), api.ErrLost)
		}
	}
}

// R1, R2: ErrArg comes before ErrNone, which the second search has: it has no truth.
func TestWrongArguments(t *testing.T) {
	for _, x := range []api.LostSearch{searchT(), seen(searchS(), look(0, 0, 0))} {
		for _, number := range list(-1, 4, 99, math.MinInt, math.MaxInt) {
			cases.ExpectError(t, "no number of the search", calls(x, asked{list(2), number, 5}), api.ErrArg, "Where", "Took", "Way", "Chain")
		}
		for _, year := range list(-1, api.MaxLostYear+1, math.MinInt, math.MaxInt) {
			cases.ExpectError(t, "no year", calls(x, asked{list(2), 0, year}), api.ErrArg, "Run", "Where", "Sure", "Ask", "Tour", "Way", "Chain")
		}
		for name, took := range map[string][]int{
			"without what took":    nil,
			"other ones":           list(0, 1, 3),
			"a gift below":         list(-1, 2),
			"a gift above":         list(2, 4),
			"far off":              list(math.MinInt, 2, math.MaxInt),
			"descending":           list(2, 1),
			"twice":                list(2, 2),
			"descending later":     list(0, 2, 3, 1),
			"long":                 make([]int, 1<<20),
			"a gift above, by far": list(0, 2, 1<<40),
		} {
			cases.ExpectError(t, name, calls(x, asked{took, 0, 5}), api.ErrArg, "Run")
		}
	}
	refused := row(2, 5, gift(0, 1, 1, api.Never), gift(0, 1, 2, api.Perhaps))
	for _, took := range [][]int{list(0), list(0, 1)} {
		cases.ExpectError(t, "with what never took", calls(refused, asked{took, 0, 5}), api.ErrArg, "Run")
	}
	cases.ExpectError(t, "a garden, but no gift", calls(refused, asked{nil, 2, 1}), api.ErrArg, "Where", "Took", "Way", "Chain")
	cases.ExpectError(t, "a gift, but no garden", calls(short(), asked{list(4), 5, 1}), api.ErrArg, "Where", "Took", "Way", "Chain")
	cases.ExpectError(t, "no gardens", calls(api.LostSearch{Lives: 1}, asked{list(0), 0, 0}), api.ErrArg, "Run", "Where", "Took", "Way", "Chain")
}

// ErrNone: searches without a truth have no results, but of Check and Run.
func TestNoTruth(t *testing.T) {
	for name, x := range map[string]api.LostSearch{
		"a first tree is not there":  seen(searchS(), look(0, 9, 0)),
		"it stands no more":          seen(searchS(), look(0, 10, 1)),
		"looks that differ":          seen(searchS(), look(1, 7, 0), look(2, 13, 1), look(1, 7, 1)),
		"what took is not there":     seen(searchS(), look(3, 9, 0)),
		"what never took is there":   seen(row(2, 5, gift(0, 1, 3, api.Never)), look(1, 4, 1)),
		"too early":                  seen(searchS(), look(1, 4, 1)),
		"without a first tree":       {Gardens: 2, Lives: 3, Looks: []api.LostLook{look(0, 0, 1)}},
		"without the tree before it": seen(searchS(), look(1, 7, 0), look(2, 11, 1)),
	} {
		for number := range 2 {
			a := asked{nil, number % max(1, len(x.Gifts)), 4}
			cases.ExpectError(t, name, calls(x, a), api.ErrNone, "Many", "Where", "Sure", "Last", "Ask", "Tour", "Way", "Chain")
			if len(x.Gifts) > 0 {
				cases.ExpectError(t, name, calls(x, a), api.ErrNone, "Took")
			}
		}
		if e := lost.Check(x); e != api.OK {
			t.Errorf("%s: Check = %d", name, e)
		}
	}
	if gardens, e := lost.Run(seen(searchS(), look(0, 9, 0)), list(2), 9); !slices.Equal(gardens, list(0, 3)) || e != api.OK {
		t.Errorf("Run = %v, %d", gardens, e)
	}
}

// P7.2
func TestRun(t *testing.T) {
	all := list(0, 1, 2, 3)
	both := api.LostSearch{Gardens: 3, First: list(0, 2), Lives: 1}
	for name, x := range map[string]struct {
		x    api.LostSearch
		took []int
		year int
		want []int
	}{
		"no gardens":             {api.LostSearch{Lives: 1}, nil, 0, nil},
		"first trees":            {both, nil, 0, list(0, 2)},
		"they live one year":     {both, nil, 1, nil},
		"S":                      {searchS(), list(0, 1, 2), 9, all},
		"S, one":                 {searchS(), list(2), 9, list(0, 3)},
		"S, from no tree":        {searchS(), list(1, 2), 9, list(0, 3)},
		"S, in its last year":    {searchS(), list(2), 18, list(3)},
		"S, behind it":           {searchS(), list(2), 19, nil},
		"S, the latest tree":     {searchS(), all, 21, list(2)},
		"S, behind that":         {searchS(), all, 22, nil},
		"ahead of a gift":        {searchS(), all, 4, list(0)},
		"in a gift's year":       {searchS(), all, 5, list(0, 1)},
		"a tree of that year":    {row(3, 9, gift(0, 1, 3, 3), gift(1, 2, 3, 3)), list(0, 1), 3, list(0, 1)},
		"in the other order":     {row(3, 9, gift(1, 2, 3, 3), gift(0, 1, 3, 3)), list(0, 1), 9, list(1)},
		"later, but ahead":       {row(3, 9, gift(1, 2, 4, 3), gift(0, 1, 3, 3)), list(0, 1), 9, list(1, 2)},
		"from a last year":       {row(2, 3, gift(0, 1, 2, 3)), list(0), 2, list(0, 1)},
		"from the year behind":   {row(2, 3, gift(0, 1, 3, 3)), list(0), 3, nil},
		"two trees":              {row(2, 3, gift(0, 1, 1, 3), gift(0, 1, 2, 3)), list(0, 1), 4, list(1)},
		"the first of them":      {row(2, 3, gift(0, 1, 1, 3), gift(0, 1, 2, 3)), list(0), 4, nil},
		"a tree, and its own":    {row(3, 4, gift(0, 1, 2, 3), gift(0, 1, 3, 3), gift(1, 2, 3, 3)), list(0, 1, 2), 6, list(1, 2)},
		"a ring":                 {ring(), all, 9, list(0, 1)},
		"a ring, without one":    {ring(), list(0, 2, 3), 9, nil},
		"the old tree is gone":   {ring(), list(0, 1, 3), 9, nil},
		"what surely took":       {row(3, 5, gift(0, 1, 2, 1), gift(1, 2, 6, 1)), list(0, 1), 9, list(2)},
		"surely, but no wood":    {row(3, 5, gift(1, 2, 2, 1)), list(0), 4, list(0)},
		"the greatest year":      {full(), nil, 98, list(0, 1, 2, 3, 4, 5, 6, 7)},
		"behind it":              {full(), nil, 99, nil},
		"a gift of the last":     {row(2, 98, gift(0, 1, 97, 3)), list(0), 99, list(1)},
		"in the year 99, wood":   {row(2, 99, gift(0, 1, 99, 3)), list(0), 99, nil},
		"no first tree":          {api.LostSearch{Gardens: 2, Lives: 9, Gifts: gifts(gift(0, 1, 1, 1))}, list(0), 1, nil},
		"whatever the looks say": {searchT(), list(1, 2), 9, list(0, 3)},
	} {
		if gardens, e := lost.Run(x.x, x.took, x.year); !slices.Equal(gardens, x.want) || e != api.OK {
			t.Errorf("%s: Run = %v, %d; want %v", name, gardens, e, x.want)
		}
	}
}

// P7.3, P7.6, P7.7
func TestWhatIsKnown(t *testing.T) {
	for name, x := range map[string]struct {
		x    api.LostSearch
		many int
		last api.Span
		took []int
	}{
		"S":                  {searchS(), 8, span(18, 21), list(3, 3, 1, 3)},
		"T":                  {searchT(), 2, span(18, 21), list(1, 2, 1, 3)},
		"one tree":           {row(1, 4), 1, span(3, 3), nil},
		"never":              {row(2, 4, gift(0, 1, 3, 2), gift(0, 1, 2, 3)), 2, span(3, 5), list(2, 3)},
		"from no tree":       {row(3, 4, gift(1, 2, 3, 3)), 2, span(3, 3), list(3)},
		"found":              {seen(searchS(), look(2, 11, 1)), 2, span(18, 21), list(1, 1, 1, 3)},
		"found, but no more": {seen(searchS(), look(2, 11, 1), look(2, 20, 0)), 1, span(18, 18), list(1, 1, 1, 2)},
		"found, from two":    {seen(searchS(), look(2, 13, 1)), 5, span(18, 21), list(3, 3, 1, 3)},
		"behind MaxLostYear": {row(2, 99, gift(0, 1, 98, 3)), 2, span(98, 196), list(3)},
		"the latest year":    {row(3, 99, gift(0, 1, 98, 1), gift(1, 2, 99, 3)), 2, span(196, 197), list(1, 3)},
		"full":               {full(), 4096, span(98, 197), slices.Repeat(list(3), 12)},
	} {
		many, e := lost.Many(x.x)
		last, f := lost.Last(x.x)
		if many != x.many || last != x.last || e != api.OK || f != api.OK {
			t.Errorf("%s: Many = %d, %d; Last = %v, %d", name, many, e, last, f)
		}
		for gift, want := range x.took {
			if took, e := lost.Took(x.x, gift); took != want || e != api.OK {
				t.Errorf("%s: Took of %d = %d, %d; want %d", name, gift, took, e, want)
			}
		}
	}
}

// P7.6: ErrNone also without a first tree, though there are truths.
func TestLastOfNothing(t *testing.T) {
	for _, x := range []api.LostSearch{{Lives: 1}, {Gardens: 2, Lives: 9, Gifts: gifts(gift(0, 1, 1, 1))}} {
		cases.ExpectError(t, "no first tree", calls(x, asked{nil, 0, 0}), api.ErrNone, "Last")
		if many, e := lost.Many(x); many != 1 || e != api.OK {
			t.Errorf("Many of %v = %d, %d", x, many, e)
		}
	}
}

// P7.4, P7.5, P7.8, P7.9
func TestWhereToLook(t *testing.T) {
	const none = -1
	twice := row(4, 9, gift(0, 3, 2, 3), gift(0, 1, 2, 3), gift(0, 3, 3, 3))
	for name, x := range map[string]struct {
		x             api.LostSearch
		year          int
		sure, perhaps []int
		ask           int
		tour          []int
	}{
		"S, year 0":           {searchS(), 0, list(0), nil, none, list(0)},
		"S, year 9":           {searchS(), 9, list(0, 3), list(1, 2), 1, list(0)},
		"S, year 15":          {searchS(), 15, list(3), list(2), 2, list(3)},
		"S, year 20":          {searchS(), 20, nil, list(2), 2, list(2)},
		"S, year 25":          {searchS(), 25, nil, nil, none, nil},
		"T, year 15":          {searchT(), 15, list(3), list(2), 2, list(3)},
		"T, year 14":          {searchT(), 14, list(1, 3), list(2), 2, list(1)},
		"T, year 25":          {searchT(), 25, nil, nil, none, nil},
		"the greatest year":   {searchT(), 99, nil, nil, none, nil},
		"no gardens":          {api.LostSearch{Lives: 1}, 5, nil, nil, none, nil},
		"the one that halves": {twice, 6, list(0), list(1, 3), 1, list(0)},
		"and asks both":       {twice, 10, nil, list(1, 3), 1, list(1, 3)},
		"the same halves":     {row(3, 5, gift(0, 2, 3, 3), gift(0, 1, 3, 3)), 6, nil, list(1, 2), 1, list(1, 2)},
		"not the first":       {row(3, 5, gift(0, 1, 2, 3), gift(0, 1, 3, 3), gift(0, 2, 3, 3)), 6, nil, list(1, 2), 2, list(1, 2)},
		"one tree for all":    {row(4, 4, gift(0, 3, 2, 3), gift(3, 1, 5, 3), gift(3, 2, 5, 3)), 5, nil, list(1, 2, 3), 3, list(3)},
		"a surely known one":  {row(5, 4, gift(0, 3, 2, 1), gift(3, 4, 5, 1), gift(3, 1, 5, 3)), 6, list(4), list(1), 1, list(4)},
		"a half, a quarter":   {row(5, 4, gift(0, 3, 2, 3), gift(3, 4, 4, 3), gift(3, 2, 4, 1)), 6, nil, list(2, 4), 2, list(2)},
	} {
		sure, perhaps, e := lost.Sure(x.x, x.year)
		if !slices.Equal(sure, x.sure) || !slices.Equal(perhaps, x.perhaps) || e != api.OK {
			t.Errorf("%s: Sure = %v, %v, %d", name, sure, perhaps, e)
		}
		for garden := range x.x.Gardens {
			known := api.Never
			if slices.Contains(x.sure, garden) {
				known = api.Surely
			} else if slices.Contains(x.perhaps, garden) {
				known = api.Perhaps
			}
			if where, e := lost.Where(x.x, garden, x.year); where != known || e != api.OK {
				t.Errorf("%s: Where of %d = %d, %d; want %d", name, garden, where, e, known)
			}
		}
		expectAsk(t, x.x, x.year, x.ask)
		expectTour(t, x.x, x.year, x.tour)
	}
}

// expectAsk checks Ask; there is none if what is expected is below 0.
func expectAsk(t *testing.T, x api.LostSearch, year, want int) {
	t.Helper()
	wantError := api.OK
	if want < 0 {
		want, wantError = 0, api.ErrNone
	}
	if ask, e := lost.Ask(x, year); ask != want || e != wantError {
		t.Errorf("Ask of %v, %d = %d, %d; want %d, %d", x, year, ask, e, want, wantError)
	}
}

// expectTour checks Tour; there is none if what is expected is empty.
func expectTour(t *testing.T, x api.LostSearch, year int, want []int) {
	t.Helper()
	wantError := api.OK
	if len(want) == 0 {
		wantError = api.ErrNone
	}
	if tour, e := lost.Tour(x, year); !slices.Equal(tour, want) || e != wantError {
		t.Errorf("Tour of %v, %d = %v, %d; want %v, %d", x, year, tour, e, want, wantError)
	}
}

// P7.10, P7.11
func TestChains(t *testing.T) {
	for name, x := range map[string]struct {
		x            api.LostSearch
		garden, year int
		want         [][]int // one of these, or there is none
	}{
		"the first tree":          {searchS(), 0, 5, [][]int{nil}},
		"in its last year":        {searchS(), 0, 9, [][]int{nil}},
		"behind it":               {searchS(), 0, 10, nil},
		"S":                       {searchS(), 2, 15, [][]int{{0, 1}, {2, 3}}},
		"S, the later tree":       {searchS(), 2, 20, [][]int{{2, 3}}},
		"S, the earlier tree":     {searchS(), 2, 11, [][]int{{0, 1}}},
		"S, one gift":             {searchS(), 3, 9, [][]int{{2}}},
		"S, ahead of it":          {searchS(), 3, 8, nil},
		"T":                       {searchT(), 2, 15, [][]int{{2, 3}}},
		"T, no truth of it":       {searchT(), 2, 11, nil},
		"the short way":           {short(), 4, 8, [][]int{{3, 4}}},
		"the short way, surely":   {surely(short()), 4, 8, [][]int{{3, 4}}},
		"the first branch":        {branched(), 4, 8, [][]int{{0, 1, 2, 3}}},
		"the other branch":        {branched(), 5, 8, [][]int{{0, 1, 2, 4}}},
		"not yet the short way":   {short(), 3, 4, [][]int{{0, 1, 2}}},
		"its tree stands longer":  {short(), 3, 13, [][]int{{3}}},
		"back to the first one":   {row(2, 9, gift(0, 1, 3, 3), gift(1, 0, 5, 3)), 0, 10, [][]int{{0, 1}}},
		"but its tree stands yet": {row(2, 9, gift(0, 1, 3, 3), gift(1, 0, 5, 3)), 0, 8, [][]int{nil}},
		"round the ring":          {ring(), 1, 12, [][]int{{0, 1, 2, 3}}},
		"of two truths":           {fork(), 3, 9, [][]int{{0}}},
		"ahead of the short one":  {fork(), 3, 7, [][]int{{1, 2}}},
		"from no tree":            {fork(), 5, 5, nil},
		"never":                   {row(2, 9, gift(0, 1, 3, api.Never)), 1, 4, nil},
		"in one year":             {row(3, 9, gift(0, 1, 3, 3), gift(1, 2, 3, 3)), 2, 4, nil},
		// the wood of the garden 0 in the year 6 was that of its second tree
		"from a later tree": {row(3, 5, gift(0, 1, 2, 3), gift(1, 0, 4, 3), gift(0, 2, 6, 3)), 2, 8, [][]int{{0, 1, 2}}},
	} {
		way, e := lost.Way(x.x, x.garden, x.year)
		chain, f := lost.Chain(x.x, x.garden, x.year)
		if len(x.want) == 0 {
			if way != 0 || len(chain) > 0 || e != api.ErrNone || f != api.ErrNone {
				t.Errorf("%s: Way = %d, %d; Chain = %v, %d; want none", name, way, e, chain, f)
			}
			continue
		}
		one := slices.ContainsFunc(x.want, func(want []int) bool { return slices.Equal(want, chain) })
		if way != len(x.want[0]) || !one || e != api.OK || f != api.OK {
			t.Errorf("%s: Way = %d, %d; Chain = %v, %d; want one of %v", name, way, e, chain, f, x.want)
		}
	}
}
