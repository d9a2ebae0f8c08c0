package scions_test

import (
	"math"
	"slices"
	"testing"

	"pippin/api"
	"pippin/cases"
	"pippin/scions"
)

// list keeps the tables below short.
func list(numbers ...int) []int { return numbers }

func garden(places, frost int) api.ScionGarden {
	return api.ScionGarden{Places: places, Frost: frost}
}

func gardens(all ...api.ScionGarden) []api.ScionGarden { return all }

func want(garden, sort int) api.ScionWant { return api.ScionWant{Garden: garden, Sort: sort} }

func listOf(scions []int, gardens []api.ScionGarden, wants ...api.ScionWant) api.ScionList {
	return api.ScionList{Scions: scions, Gardens: gardens, Wants: wants}
}

// listP and listQ are P and Q of the chapter's examples.
func listP() api.ScionList {
	return listOf(list(2, 3), gardens(garden(1, 0), garden(1, 0), garden(2, 1)), want(0, 0), want(1, 0), want(2, 0), want(0, 1), want(1, 1), want(2, 1))
}

func listQ() api.ScionList {
	return with(listP(), func(l *api.ScionList) { l.Gardens[2].Places = 1 })
}

// with returns a list of which something was changed, and that shares no memory with the given one.
func with(l api.ScionList, change func(l *api.ScionList)) api.ScionList {
	l.Scions, l.Gardens, l.Wants = slices.Clone(l.Scions), slices.Clone(l.Gardens), slices.Clone(l.Wants)
	change(&l)
	return l
}

// full has as much of everything as there can be; two gardens have one frost.
func full() api.ScionList {
	l := listOf(list(4, 4, 4, 4), gardens(garden(4, 0), garden(4, 1), garden(4, 2), garden(4, 3), garden(4, 3)))
	for number := range api.MaxScionWants {
		l.Wants = append(l.Wants, want(1+number%4, number/4))
	}
	return l
}

// scarce has four gardens that ask for both sorts, with one place each. The rarest sort alone would take all of them.
func scarce() api.ScionList {
	l := listOf(list(4, 2), gardens(garden(1, 0), garden(1, 1), garden(1, 2), garden(1, 3)))
	for number := range 8 {
		l.Wants = append(l.Wants, want(number%4, number/4))
	}
	return l
}

// moved has a garden that asks for both sorts: the first one has to go to the other garden.
func moved() api.ScionList {
	return listOf(list(1, 1), gardens(garden(1, 0), garden(1, 1)), want(0, 0), want(1, 0), want(0, 1))
}

// frozen has five gardens with one frost, all of which ask for both sorts.
func frozen() api.ScionList {
	l := listOf(list(4, 4), slices.Repeat(gardens(garden(4, 2)), 5))
	for number := range 10 {
		l.Wants = append(l.Wants, want(number/2, number%2))
	}
	return l
}

// greedy has one garden, with so many places, that asks for all four sorts.
func greedy(places int) api.ScionList {
	return listOf(list(1, 2, 3, 4), gardens(garden(places, 3)), want(0, 3), want(0, 0), want(0, 2), want(0, 1))
}

// asked is a gift, and the sort, the garden or the frost that is asked for.
type asked struct {
	gift   []int
	number int
}

// truth returns 1 of what is so.
func truth(is bool) int {
	if is {
		return 1
	}
	return 0
}

// calls calls all functions.
func calls(l api.ScionList, x asked) []cases.Outcome {
	fits, e1 := scions.Fits(l, x.gift)
	lost, e2 := scions.Lost(l, x.gift, x.number)
	most, e3 := scions.Most(l)
	alone, e4 := scions.Alone(l, x.number)
	place, e5 := scions.Place(l, x.number)
	best, e6 := scions.Best(l)
	give, e7 := scions.Give(l)
	safe, e8 := scions.Safe(l)
	save, e9 := scions.Save(l)
	weak, e10 := scions.Weak(l)
	return []cases.Outcome{
		cases.Got("Check", 0, scions.Check(l)), cases.Got("Fits", truth(fits), e1), cases.Got("Lost", len(lost), e2), cases.Got("Most", most, e3), cases.Got("Alone", alone, e4), cases.Got("Place", place, e5),
		cases.Got("Best", len(best), e6), cases.Got("Give", len(give), e7), cases.Got("Safe", safe, e8), cases.Got("Save", len(save), e9), cases.Got("Weak", len(weak), e10),
	}
}

// P6.1: what is valid, up to each limit.
func TestCheckTakesValid(t *testing.T) {
	for name, l := range map[string]api.ScionList{
		"nothing":           {},
		"P":                 listP(),
		"Q":                 listQ(),
		"full":              full(),
		"frozen":            frozen(),
		"sorts alone":       listOf(list(0, 4, 0, 4), nil),
		"gardens alone":     listOf(nil, gardens(garden(0, 0), garden(4, 3), garden(0, 3), garden(4, 0), garden(0, 0))),
		"one sort, often":   listOf(list(0), slices.Repeat(gardens(garden(0, 0)), 5), want(4, 0), want(3, 0), want(2, 0), want(1, 0), want(0, 0)),
		"one garden, often": greedy(0),
		"turned about":      listOf(list(1, 1), gardens(garden(1, 1), garden(1, 1)), want(1, 0), want(0, 1)),
	} {
		if e := scions.Check(l); e != api.OK {
			t.Errorf("%s: Check = %d", name, e)
		}
	}
}

// wrongLists are not valid, each for one reason.
func wrongLists() map[string]api.ScionList {
	of := func(change func(l *api.ScionList)) api.ScionList { return with(listP(), change) }
	changed := func(at int, w api.ScionWant) api.ScionList {
		return of(func(l *api.ScionList) { l.Wants[at] = w })
	}
	return map[string]api.ScionList{
		"too many sorts":       of(func(l *api.ScionList) { l.Scions = list(1, 1, 1, 1, 1) }),
		"scions below":         of(func(l *api.ScionList) { l.Scions[0] = -1 }),
		"scions above":         of(func(l *api.ScionList) { l.Scions[1] = api.MaxScions + 1 }),
		"too many gardens":     of(func(l *api.ScionList) { l.Gardens = slices.Repeat(l.Gardens, 2) }),
		"places below":         of(func(l *api.ScionList) { l.Gardens[0].Places = -1 }),
		"places above":         of(func(l *api.ScionList) { l.Gardens[2].Places = api.MaxScionPlaces + 1 }),
		"a frost below":        of(func(l *api.ScionList) { l.Gardens[1].Frost = -1 }),
		"a frost above":        of(func(l *api.ScionList) { l.Gardens[2].Frost = api.MaxFrosts }),
		"too many wants":       with(full(), func(l *api.ScionList) { l.Wants = append(l.Wants, want(0, 0)) }),
		"a garden below":       changed(0, want(-1, 0)),
		"a garden above":       changed(5, want(3, 1)),
		"a sort below":         changed(2, want(2, -1)),
		"a sort above":         changed(3, want(0, 2)),
		"far off":              changed(0, want(math.MinInt, math.MaxInt)),
		"a want twice":         changed(1, want(0, 0)),
		"the last want twice":  changed(5, want(1, 0)),
		"wants without sorts":  listOf(nil, gardens(garden(1, 0)), want(0, 0)),
		"wants, but no garden": listOf(list(1), nil, want(0, 0)),
	}
}

// P6.1, R1, R2: ErrScion comes before ErrArg.
func TestWrongLists(t *testing.T) {
	for name, l := range wrongLists() {
		for _, x := range []asked{{nil, 0}, {list(-1), -1}, {list(1, 0), 99}} {
			cases.ExpectError(t, name, calls(l, x), api.ErrScion)
		}
	}
}

// ErrArg: gifts that are none, sorts, gardens and frosts that are none.
func TestWrongArguments(t *testing.T) {
	for name, gift := range map[string][]int{
		"a want below":         list(-1),
		"a want above":         list(6),
		"the last want above":  list(0, 2, 6),
		"the first want below": list(-1, 0),
		"far off":              list(math.MinInt, math.MaxInt),
		"descending":           list(2, 1),
		"twice":                list(0, 0),
		"descending later":     list(0, 5, 4),
		"a long gift":          make([]int, 1<<20),
	} {
		cases.ExpectError(t, name, calls(listP(), asked{gift, 0}), api.ErrArg, "Fits", "Lost")
	}
	for _, number := range list(-1, 4, 99, math.MinInt, math.MaxInt) {
		cases.ExpectError(t, "no number of P", calls(listP(), asked{nil, number}), api.ErrArg, "Lost", "Alone", "Place")
	}
	cases.ExpectError(t, "a garden, but no sort", calls(listP(), asked{nil, 2}), api.ErrArg, "Alone")
	cases.ExpectError(t, "a sort, but no garden", calls(greedy(1), asked{nil, 1}), api.ErrArg, "Place")
	cases.ExpectError(t, "nothing", calls(api.ScionList{}, asked{list(0), 0}), api.ErrArg, "Fits", "Lost", "Alone", "Place")
}

// P6.3: ErrArg also for a gift that does not fit.
func TestLostOfWhatDoesNotFit(t *testing.T) {
	for _, x := range []struct {
		l    api.ScionList
		gift []int
	}{
		{listP(), list(0, 1)}, {listP(), list(0, 3)}, {listP(), list(0, 1, 2, 3, 4, 5)}, {listQ(), list(2, 5)}, {greedy(0), list(0)}, {frozen(), list(0, 8)},
	} {
		for frost := range api.MaxFrosts {
			cases.ExpectError(t, "it does not fit", calls(x.l, asked{x.gift, frost}), api.ErrArg, "Lost")
		}
		if fits, e := scions.Fits(x.l, x.gift); fits || e != api.OK {
			t.Errorf("Fits of %v, %v = %t, %d", x.l, x.gift, fits, e)
		}
	}
}

// P6.2
func TestFits(t *testing.T) {
	poor := with(listP(), func(l *api.ScionList) { l.Scions[0] = 1 })
	none := with(listP(), func(l *api.ScionList) { l.Scions[1] = 0 })
	for name, x := range map[string]struct {
		l    api.ScionList
		gift []int
		want bool
	}{
		"nothing":                {api.ScionList{}, nil, true},
		"none of P":              {listP(), nil, true},
		"one":                    {listP(), list(5), true},
		"both with one frost":    {listP(), list(0, 1), false},
		"the last of one frost":  {listP(), list(2, 3, 4), false},
		"two sorts, one frost":   {listP(), list(0, 4), true},
		"two frosts":             {listP(), list(0, 2), true},
		"a garden's one place":   {listP(), list(0, 3), false},
		"a garden's two places":  {listP(), list(2, 5), true},
		"as many as there can":   {listP(), list(0, 2, 4, 5), true},
		"so, the other way":      {listP(), list(1, 2, 3, 5), true},
		"all":                    {listP(), list(0, 1, 2, 3, 4, 5), false},
		"Q has one place less":   {listQ(), list(2, 5), false},
		"Q, one of them":         {listQ(), list(1, 3, 5), true},
		"one scion":              {poor, list(2, 5), true},
		"one scion for two":      {poor, list(0, 2), false},
		"no scions":              {none, list(3), false},
		"no scions of the other": {none, list(0, 2), true},
		"no places":              {greedy(0), list(2), false},
		"all places":             {greedy(3), list(0, 1, 3), true},
		"one more than places":   {greedy(3), list(0, 1, 2, 3), false},
		"a frost takes all":      {frozen(), list(1, 9), false},
		"one of each":            {frozen(), list(8, 9), true},
		"three frosts":           {full(), list(0, 1, 2, 4, 5, 7, 8, 9, 11), true},
		"a frost among others":   {full(), list(0, 1, 2, 3), false},
	} {
		if fits, e := scions.Fits(x.l, x.gift); fits != x.want || e != api.OK {
			t.Errorf("%s: Fits = %t, %d", name, fits, e)
		}
	}
}

// P6.3
func TestLost(t *testing.T) {
	for name, x := range map[string]struct {
		l    api.ScionList
		gift []int
		lost [][]int // by each frost
	}{
		"nothing":             {api.ScionList{}, nil, [][]int{nil, nil, nil, nil}},
		"none of P":           {listP(), nil, [][]int{nil, nil, nil, nil}},
		"one each":            {listP(), list(0, 5), [][]int{{0}, {1}, nil, nil}},
		"both by one frost":   {listP(), list(0, 4), [][]int{{0, 1}, nil, nil, nil}},
		"one garden":          {listP(), list(2, 5), [][]int{nil, {0, 1}, nil, nil}},
		"one of them is safe": {listP(), list(0, 2, 4), [][]int{{1}, nil, nil, nil}},
		"all are safe":        {listP(), list(0, 2, 4, 5), [][]int{nil, nil, nil, nil}},
		"four sorts":          {greedy(4), list(0, 1, 2, 3), [][]int{nil, nil, nil, {0, 1, 2, 3}}},
		"the latest frosts":   {full(), list(0, 5, 6, 11), [][]int{nil, {0}, nil, {2}}},
	} {
		for frost, want := range x.lost {
			if lost, e := scions.Lost(x.l, x.gift, frost); !slices.Equal(lost, want) || e != api.OK {
				t.Errorf("%s: Lost by %d = %v, %d; want %v", name, frost, lost, e, want)
			}
		}
	}
}

// P6.4 to P6.11
func TestGifts(t *testing.T) {
	for name, x := range map[string]struct {
		l            api.ScionList
		most         int
		alone, place []int
		best         []int
		safe         int
		weak         []int
	}{
		"nothing":             {api.ScionList{}, 0, nil, nil, nil, 0, nil},
		"no wants":            {listOf(list(2, 2), gardens(garden(4, 0))), 0, list(0, 0), list(0), list(0, 0), 0, nil},
		"no scions":           {listOf(list(0, 0), gardens(garden(4, 0)), want(0, 0), want(0, 1)), 0, list(0, 0), list(0), list(0, 0), 0, nil},
		"no places":           {greedy(0), 0, list(0, 0, 0, 0), list(1), list(0, 0, 0, 0), 0, nil},
		"P":                   {listP(), 4, list(2, 2), list(0, 0, 0), list(2, 2), 2, list(0, 1, 2)},
		"Q":                   {listQ(), 3, list(2, 2), list(0, 0, 1), list(2, 1), 1, list(2)},
		"full":                {full(), 9, list(3, 3, 3, 0), list(0, 0, 0, 0, 0), list(3, 3, 3, 0), 3, nil},
		"scarce":              {scarce(), 4, list(4, 2), list(1, 1, 1, 1), list(4, 0), 2, list(0, 1, 2, 3)},
		"moved":               {moved(), 2, list(1, 1), list(0, 0), list(1, 1), 0, nil},
		"frozen":              {frozen(), 2, list(1, 1), list(0, 0, 0, 0, 0), list(1, 1), 0, nil},
		"greedy, one place":   {greedy(1), 1, list(1, 1, 1, 1), list(1), list(1, 0, 0, 0), 0, nil},
		"greedy, two places":  {greedy(2), 2, list(1, 1, 1, 1), list(1), list(1, 1, 0, 0), 0, nil},
		"greedy, most places": {greedy(4), 4, list(1, 1, 1, 1), list(0), list(1, 1, 1, 1), 0, nil},
		"a sort alone":        {listOf(list(3), gardens(garden(1, 0), garden(1, 1), garden(1, 2), garden(1, 3)), want(3, 0), want(1, 0), want(0, 0), want(2, 0)), 3, list(3), list(0, 0, 0, 0), list(3), 1, nil},
		"two of two":          {listOf(list(4), gardens(garden(1, 0), garden(1, 1), garden(4, 1)), want(0, 0), want(1, 0), want(2, 0)), 2, list(2), list(0, 0, 0), list(2), 1, list(0)},
		"the frost's other":   {listOf(list(1, 1), gardens(garden(1, 0), garden(0, 0)), want(0, 0), want(0, 1), want(1, 1)), 1, list(1, 1), list(1, 1), list(1, 0), 0, nil},
		"rare, but not asked": {listOf(list(1, 4), gardens(garden(2, 0), garden(2, 3)), want(1, 1), want(0, 1)), 2, list(0, 2), list(0, 0), list(0, 2), 1, list(0, 1)},
	} {
		most, e := scions.Most(x.l)
		best, f := scions.Best(x.l)
		safe, g := scions.Safe(x.l)
		weak, h := scions.Weak(x.l)
		if most != x.most || !slices.Equal(best, x.best) || safe != x.safe || !slices.Equal(weak, x.weak) || e != api.OK || f != api.OK || g != api.OK || h != api.OK {
			t.Errorf("%s: Most = %d, %d; Best = %v, %d; Safe = %d, %d; Weak = %v, %d", name, most, e, best, f, safe, g, weak, h)
		}
		expectEach(t, x.l, x.alone, x.place)
		expectGiven(t, x.l, x.best, x.safe)
	}
	if give, e := scions.Give(listP()); !slices.Equal(give, list(0, 2, 4, 5)) && !slices.Equal(give, list(1, 2, 3, 5)) || e != api.OK {
		t.Errorf("Give of P = %v, %d", give, e)
	}
	if give, e := scions.Give(moved()); !slices.Equal(give, list(1, 2)) || e != api.OK {
		t.Errorf("Give of moved = %v, %d", give, e)
	}
}

// expectEach checks Alone of each sort, and Place of each garden.
func expectEach(t *testing.T, l api.ScionList, alone, place []int) {
	t.Helper()
	for sort, want := range alone {
		if n, e := scions.Alone(l, sort); n != want || e != api.OK {
			t.Errorf("Alone of %v, %d = %d, %d; want %d", l, sort, n, e, want)
		}
	}
	for garden, want := range place {
		if n, e := scions.Place(l, garden); n != want || e != api.OK {
			t.Errorf("Place of %v, %d = %d, %d; want %d", l, garden, n, e, want)
		}
	}
}

// expectGiven checks that Give and Save are gifts that fit, with these counts, and with so many safe sorts.
func expectGiven(t *testing.T, l api.ScionList, best []int, safe int) {
	t.Helper()
	give, e := scions.Give(l)
	if e != api.OK || !isGift(l, give) || !fits(l, give) || !slices.Equal(countsOf(l, give), best) {
		t.Errorf("Give of %v = %v, %d; want one with the counts %v", l, give, e, best)
	}
	save, e := scions.Save(l)
	if e != api.OK || !isGift(l, save) || !fits(l, save) || safeOf(l, save) != safe {
		t.Errorf("Save of %v = %v, %d; want one with %d safe sorts", l, save, e, safe)
	}
}
