package lost_test

import (
	"slices"
	"testing"

	"pippin/api"
	"pippin/cases"
	"pippin/lost"
)

// plant is a tree that was planted in a garden in a year.
type plant struct {
	garden, year int
}

// standsIn says whether one of some trees stands in a garden in a year.
func standsIn(x api.LostSearch, trees []plant, garden, year int) bool {
	return slices.ContainsFunc(trees, func(p plant) bool {
		return p.garden == garden && year >= p.year && year-p.year < x.Lives
	})
}

// gardensOf returns all gardens in which one of some trees stands in a year.
func gardensOf(x api.LostSearch, trees []plant, year int) []int {
	var gardens []int
	for garden := range x.Gardens {
		if standsIn(x, trees, garden, year) {
			gardens = append(gardens, garden)
		}
	}
	return gardens
}

// plants returns the trees that come of what took, year by year.
func plants(x api.LostSearch, took []int) []plant {
	var trees []plant
	for _, garden := range x.First {
		trees = append(trees, plant{garden, 0})
	}
	for year := 1; year <= api.MaxLostYear; year++ {
		var planted []plant
		for _, number := range took {
			// none of these trees is of this year yet
			if g := x.Gifts[number]; g.Year == year && standsIn(x, trees, g.From, year) {
				planted = append(planted, plant{g.To, year})
			}
		}
		trees = append(trees, planted...)
	}
	return trees
}

// canHaveTaken says whether a list of gifts is one of what took.
func canHaveTaken(x api.LostSearch, took []int) bool {
	for number, g := range x.Gifts {
		is := slices.Contains(took, number)
		if is && g.Took == api.Never || !is && g.Took == api.Surely {
			return false
		}
	}
	return true
}

// event is a truth, and the trees that come of it.
type event struct {
	took  []int
	trees []plant
}

// allEvents writes down all truths.
func allEvents(x api.LostSearch) []event {
	var events []event
	for _, took := range cases.Sets(len(x.Gifts)) {
		if !canHaveTaken(x, took) {
			continue
		}
		trees := plants(x, took)
		wrong := func(l api.LostLook) bool { return standsIn(x, trees, l.Garden, l.Year) != (l.Found == 1) }
		if !slices.ContainsFunc(x.Looks, wrong) {
			events = append(events, event{took, trees})
		}
	}
	return events
}

// lastOf returns the last year in which one of some trees stands.
func lastOf(x api.LostSearch, trees []plant) int {
	last := 0
	for year := range 2 * api.MaxLostYear {
		if len(gardensOf(x, trees, year)) > 0 {
			last = year
		}
	}
	return last
}

// knownOf says what is known of what is so in some of all truths.
func knownOf(some, all int) int {
	known := api.Perhaps
	if some == all {
		known = api.Surely
	} else if some == 0 {
		known = api.Never
	}
	return known
}

// told is what all truths together say of a year.
type told struct {
	where, sure, perhaps []int
	ask                  int // below 0 if there is none
	tour                 []int
}

func tell(x api.LostSearch, events []event, year int) told {
	all := told{ask: -1}
	least := len(events)
	for garden := range x.Gardens {
		some := 0
		for _, v := range events {
			if standsIn(x, v.trees, garden, year) {
				some++
			}
		}
		known := knownOf(some, len(events))
		all.where = append(all.where, known)
		if known == api.Surely {
			all.sure = append(all.sure, garden)
		}
		if known == api.Perhaps {
			all.perhaps = append(all.perhaps, garden)
		}
		// a garden of which all is known leaves all truths, and is never the first one to leave fewer
		if worst := max(some, len(events)-some); worst < least {
			all.ask, least = garden, worst
		}
	}
	all.tour = tourOf(x, events, year)
	return all
}

// tourOf looks for a tour among all lists of gardens; nil if there is none.
func tourOf(x api.LostSearch, events []event, year int) []int {
	var best []int
	for _, tour := range cases.Sets(x.Gardens) {
		shorter := best == nil || len(tour) < len(best) || len(tour) == len(best) && slices.Compare(tour, best) < 0
		if len(tour) > 0 && shorter && toursAll(x, events, year, tour) {
			best = tour
		}
	}
	return best
}

// toursAll says whether the sort stands in one of some gardens in each truth in which it stands somewhere, and whether there is such a truth.
func toursAll(x api.LostSearch, events []event, year int, tour []int) bool {
	some := false
	for _, v := range events {
		gardens := gardensOf(x, v.trees, year)
		if len(gardens) == 0 {
			continue
		}
		some = true
		if !slices.ContainsFunc(gardens, func(garden int) bool { return slices.Contains(tour, garden) }) {
			return false
		}
	}
	return some
}

// isChain says whether gifts are a chain of a garden and a year, as the chapter defines it, if all of them took.
func isChain(x api.LostSearch, chain []int, garden, year int) bool {
	if len(chain) == 0 {
		return slices.Contains(x.First, garden) && year < x.Lives
	}
	planted := 0
	for at, number := range chain {
		g := x.Gifts[number]
		if at == 0 && !slices.Contains(x.First, g.From) || at > 0 && g.From != x.Gifts[chain[at-1]].To {
			return false
		}
		if g.Year <= planted || g.Year-planted >= x.Lives {
			return false
		}
		planted = g.Year
	}
	last := x.Gifts[chain[len(chain)-1]]
	return last.To == garden && year >= planted && year-planted < x.Lives
}

// tookIn says whether all gifts of a chain took in one truth.
func tookIn(events []event, chain []int) bool {
	return slices.ContainsFunc(events, func(v event) bool { return cases.Subset(chain, v.took) })
}

// allChains writes down all chains of any garden and year. What a chain begins with is a chain, too.
func allChains(x api.LostSearch, events []event) [][]int {
	if len(events) == 0 {
		return nil
	}
	chains := [][]int{nil}
	for at := 0; at < len(chains); at++ {
		for number, g := range x.Gifts {
			longer := append(slices.Clone(chains[at]), number)
			if isChain(x, longer, g.To, g.Year) && tookIn(events, longer) {
				chains = append(chains, longer)
			}
		}
	}
	return chains
}

// throwSearch returns a valid search with so many gardens, gifts and looks. Most looks agree with one truth.
func throwSearch(d *cases.Dice, gardens, gifts, looks int) api.LostSearch {
	// some searches are of many years
	scale := 1 + 8*(d.Below(4)/3)
	years := 1 + d.Below(11)
	x := api.LostSearch{Gardens: gardens, Lives: scale * (1 + d.Below(9))}
	for garden := range gardens {
		if d.Below(6) == 0 || garden == 0 && d.Below(8) > 0 {
			x.First = append(x.First, garden)
		}
	}
	if gardens > 1 {
		for range gifts {
			x.Gifts = append(x.Gifts, throwGift(d, gardens, scale, years))
		}
	}
	var took []int
	for number, g := range x.Gifts {
		if g.Took == api.Surely || g.Took == api.Perhaps && d.Below(3) > 0 {
			took = append(took, number)
		}
	}
	trees := plants(x, took)
	if gardens > 0 {
		for range looks {
			l := look(d.Below(gardens), min(api.MaxLostYear, d.Below(scale*(years+6))), 0)
			if standsIn(x, trees, l.Garden, l.Year) != (d.Below(12) == 0) {
				l.Found = 1
			}
			x.Looks = append(x.Looks, l)
		}
	}
	return x
}

// throwGift returns a gift of the first years, most often one that perhaps took, and more often one of an early garden.
func throwGift(d *cases.Dice, gardens, scale, years int) api.LostGift {
	from := min(d.Below(gardens), d.Below(gardens))
	to := (from + 1 + d.Below(gardens-1)) % gardens
	return gift(from, to, scale*(1+d.Below(years)), []int{api.Surely, api.Never, api.Perhaps, api.Perhaps, api.Perhaps, api.Perhaps}[d.Below(6)])
}

// eachSearch calls a test with many small searches.
func eachSearch(test func(d *cases.Dice, x api.LostSearch)) {
	d := cases.Dice(7)
	for _, x := range []api.LostSearch{{Lives: 1}, searchS(), searchT(), ring(), short(), surely(short()), branched(), fork(), seen(searchS(), look(0, 3, 0))} {
		test(&d, x)
	}
	for range 500 {
		gardens, gifts, looks := max(d.Below(6), d.Below(6)), max(d.Below(8), d.Below(8)), d.Below(4)
		test(&d, throwSearch(&d, gardens, gifts, looks))
	}
}

// eachLarge calls a test with some searches that have as many gardens and gifts as there can be.
func eachLarge(test func(d *cases.Dice, x api.LostSearch)) {
	d := cases.Dice(70)
	test(&d, full())
	for range 15 {
		test(&d, throwSearch(&d, 6+d.Below(3), 11+d.Below(2), d.Below(5)))
	}
}

// yearsOf returns the years in which something of a search can change, and those beside them.
func yearsOf(x api.LostSearch) []int {
	years := list(0, 1, x.Lives-1, x.Lives, api.MaxLostYear)
	for _, g := range x.Gifts {
		years = append(years, g.Year-1, g.Year, g.Year+1, g.Year+x.Lives-1, g.Year+x.Lives)
	}
	slices.Sort(years)
	return slices.DeleteFunc(slices.Compact(years), func(year int) bool { return year > api.MaxLostYear })
}

// fewYearsOf returns some of these years.
func fewYearsOf(d *cases.Dice, x api.LostSearch, many int) []int {
	years := yearsOf(x)
	places := d.Shuffled(len(years))
	return cases.Pick(years, places[:min(many, len(years))])
}

// P7.2: all lists of gifts, of which those of what took are written down as the chapter defines them.
func TestRunAgainstTheChapter(t *testing.T) {
	eachSearch(func(_ *cases.Dice, x api.LostSearch) {
		for _, took := range cases.Sets(len(x.Gifts)) {
			if !canHaveTaken(x, took) {
				cases.ExpectError(t, "not what took", calls(x, asked{took, 0, 0}), api.ErrArg, "Run")
				continue
			}
			trees := plants(x, took)
			for _, year := range yearsOf(x) {
				if gardens, e := lost.Run(x, took, year); !slices.Equal(gardens, gardensOf(x, trees, year)) || e != api.OK {
					t.Errorf("Run of %v, %v, %d = %v, %d; want %v", x, took, year, gardens, e, gardensOf(x, trees, year))
				}
			}
		}
	})
}

// P7.3 to P7.11: what all truths say, written down one by one.
func TestAgainstAllTruths(t *testing.T) {
	several, none := 0, 0
	test := func(many int) func(d *cases.Dice, x api.LostSearch) {
		return func(d *cases.Dice, x api.LostSearch) {
			events := allEvents(x)
			years := fewYearsOf(d, x, many)
			if len(events) == 0 {
				none++
				for _, year := range years {
					cases.ExpectError(t, "no truth", calls(x, asked{nil, 0, year}), api.ErrNone, "Many", "Sure", "Last", "Ask", "Tour")
				}
				return
			}
			if len(events) > 1 {
				several++
			}
			expectTruths(t, x, events)
			chains := allChains(x, events)
			for _, year := range years {
				expectTold(t, x, events, year)
				for garden := range x.Gardens {
					expectChain(t, x, events, chains, garden, year)
				}
			}
		}
	}
	eachSearch(test(30))
	eachLarge(test(6))
	// a test that saw few searches of one kind would say little
	if several < 250 || none < 30 {
		t.Errorf("%d searches have several truths, %d have none", several, none)
	}
}

// expectTruths checks Many, Last and Took.
func expectTruths(t *testing.T, x api.LostSearch, events []event) {
	t.Helper()
	if many, e := lost.Many(x); many != len(events) || e != api.OK {
		t.Errorf("Many of %v = %d, %d; want %d", x, many, e, len(events))
	}
	for number := range x.Gifts {
		some := 0
		for _, v := range events {
			if slices.Contains(v.took, number) {
				some++
			}
		}
		if took, e := lost.Took(x, number); took != knownOf(some, len(events)) || e != api.OK {
			t.Errorf("Took of %v, %d = %d, %d; it is in %d truths of %d", x, number, took, e, some, len(events))
		}
	}
	if len(x.First) == 0 {
		cases.ExpectError(t, "no first tree", calls(x, asked{nil, 0, 0}), api.ErrNone, "Last")
		return
	}
	var lasts []int
	for _, v := range events {
		lasts = append(lasts, lastOf(x, v.trees))
	}
	want := span(slices.Min(lasts), slices.Max(lasts))
	if last, e := lost.Last(x); last != want || e != api.OK {
		t.Errorf("Last of %v = %v, %d; want %v", x, last, e, want)
	}
}

// expectTold checks Where, Sure, Ask and Tour of a year.
func expectTold(t *testing.T, x api.LostSearch, events []event, year int) {
	t.Helper()
	all := tell(x, events, year)
	for garden, want := range all.where {
		if where, e := lost.Where(x, garden, year); where != want || e != api.OK {
			t.Errorf("Where of %v, %d, %d = %d, %d; want %d", x, garden, year, where, e, want)
		}
	}
	sure, perhaps, e := lost.Sure(x, year)
	if !slices.Equal(sure, all.sure) || !slices.Equal(perhaps, all.perhaps) || e != api.OK {
		t.Errorf("Sure of %v, %d = %v, %v, %d; want %v, %v", x, year, sure, perhaps, e, all.sure, all.perhaps)
	}
	expectAsk(t, x, year, all.ask)
	expectTour(t, x, year, all.tour)
}

// expectChain checks Way and Chain of a garden and a year.
func expectChain(t *testing.T, x api.LostSearch, events []event, chains [][]int, garden, year int) {
	t.Helper()
	shortest := -1
	for _, chain := range chains {
		if isChain(x, chain, garden, year) && (shortest < 0 || len(chain) < shortest) {
			shortest = len(chain)
		}
	}
	if shortest < 0 {
		cases.ExpectError(t, "no chain", calls(x, asked{nil, garden, year}), api.ErrNone, "Way", "Chain")
		return
	}
	way, e := lost.Way(x, garden, year)
	chain, f := lost.Chain(x, garden, year)
	if way != shortest || len(chain) != shortest || e != api.OK || f != api.OK {
		t.Errorf("Way of %v, %d, %d = %d, %d; Chain = %v, %d; want %d gifts", x, garden, year, way, e, chain, f, shortest)
	} else if !isChain(x, chain, garden, year) || !tookIn(events, chain) {
		t.Errorf("Chain of %v, %d, %d = %v, which is none", x, garden, year, chain)
	}
}
