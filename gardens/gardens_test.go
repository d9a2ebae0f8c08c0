package gardens_test

import (
	"math"
	"slices"
	"testing"

	"pippin/api"
	"pippin/cases"
	"pippin/gardens"
)

// list keeps the tables below short.
func list(numbers ...int) []int { return numbers }

func rows(all ...[]int) [][]int { return all }

func tree(sort, garden int) api.GardenTree { return api.GardenTree{Sort: sort, Garden: garden} }

func trees(all ...api.GardenTree) []api.GardenTree { return all }

// with returns a book of which something was changed, and that shares no memory with the given one.
func with(b api.GardenBook, change func(b *api.GardenBook)) api.GardenBook {
	b = cases.CopyGardenBook(b)
	change(&b)
	return b
}

// bookG is G of the chapter's examples.
func bookG() api.GardenBook {
	return api.GardenBook{
		Sorts:  3,
		Costs:  list(5, 3, 4, 9),
		Trees:  trees(tree(0, 0), tree(0, 1), tree(1, 0), tree(2, 3)),
		Losses: rows(list(0, 1), list(3), list(1, 2)),
	}
}

// moreG is G with one more tree, behind the two others of its sort.
func moreG() api.GardenBook {
	return with(bookG(), func(b *api.GardenBook) { b.Trees = slices.Insert(b.Trees, 2, tree(0, 2)) })
}

// gone has a sort without trees, and one that a loss takes, wherever it is grafted.
func gone() api.GardenBook {
	return api.GardenBook{Sorts: 2, Costs: list(4, 6), Trees: trees(tree(1, 0)), Losses: rows(list(0, 1))}
}

// calm has no losses.
func calm() api.GardenBook {
	return api.GardenBook{Sorts: 2, Costs: list(6, 2), Trees: trees(tree(1, 1))}
}

// pair has a sort that is saved by two grafts together, for less than by the dear one.
func pair() api.GardenBook {
	return api.GardenBook{Sorts: 1, Costs: list(9, 2, 3, 6), Trees: trees(tree(0, 0)), Losses: rows(list(0, 1), list(0, 2))}
}

// dear is pair with grafts that cost more together than the dear one.
func dear() api.GardenBook {
	return with(pair(), func(b *api.GardenBook) { b.Costs[3] = 4 })
}

// three has three sorts of one garden, each of which would be safe with the cheapest graft.
func three() api.GardenBook {
	return api.GardenBook{Sorts: 3, Costs: list(1, 7), Trees: trees(tree(0, 0), tree(1, 0), tree(2, 0)), Losses: rows(list(0))}
}

// even has two gardens that cost the same.
func even() api.GardenBook {
	return api.GardenBook{Sorts: 2, Costs: list(8, 5, 5, 1), Trees: trees(tree(0, 0), tree(1, 0)), Losses: rows(list(0, 3))}
}

// mixed has sorts that cost 5, 0, 4 and 2, and one without trees among them.
func mixed() api.GardenBook {
	return api.GardenBook{
		Sorts:  5,
		Costs:  list(2, 4, 5, 50),
		Trees:  trees(tree(0, 3), tree(1, 0), tree(1, 1), tree(3, 0), tree(4, 1)),
		Losses: rows(list(0, 3), list(1, 3)),
	}
}

// four has sorts that cost 5, 3, 3 and 1.
func four() api.GardenBook {
	return api.GardenBook{
		Sorts:  4,
		Costs:  list(1, 3, 5, 99, 99, 99),
		Trees:  trees(tree(0, 3), tree(1, 4), tree(2, 4), tree(3, 5)),
		Losses: rows(list(0, 1, 3), list(0, 4), list(5)),
	}
}

// full has as much of everything as there can be.
func full() api.GardenBook {
	b := api.GardenBook{Sorts: 6, Costs: list(99, 1, 99, 1, 99, 99)}
	for sort := range 6 {
		for garden := range 6 {
			b.Trees = append(b.Trees, tree(sort, garden))
		}
	}
	for garden := range 6 {
		b.Losses = append(b.Losses, slices.Delete(list(0, 1, 2, 3, 4, 5), garden, garden+1))
	}
	return b
}

// asked is the loss, the sort, the garden or the money that is asked for, and losses.
type asked struct {
	number int
	losses []int
}

// calls calls all functions.
func calls(b api.GardenBook, a asked) []cases.Outcome {
	takes, e1 := gardens.Takes(b, a.number)
	safe, e2 := gardens.Safe(b)
	after, e3 := gardens.After(b, a.losses)
	years, e4 := gardens.Years(b, a.losses)
	cost, e5 := gardens.Cost(b, a.number)
	plan, e6 := gardens.Plan(b, a.number)
	sum, e7 := gardens.Sum(b)
	saves, e8 := gardens.Saves(b, a.number)
	next, e9 := gardens.Next(b)
	weak, e10 := gardens.Weak(b)
	need, e11 := gardens.Need(b, a.number)
	return []cases.Outcome{
		cases.Got("Check", 0, gardens.Check(b)), cases.Got("Takes", len(takes), e1), cases.Got("Safe", len(safe), e2),
		cases.Got("After", after.Sorts+len(after.Costs)+len(after.Trees)+len(after.Losses), e3), cases.Got("Years", years, e4),
		cases.Got("Cost", cost, e5), cases.Got("Plan", len(plan), e6), cases.Got("Sum", sum, e7), cases.Got("Saves", len(saves), e8),
		cases.Got("Next", next.Sort+next.Garden, e9), cases.Got("Weak", len(weak), e10), cases.Got("Need", need, e11),
	}
}

// P10.1: what is valid, up to each limit.
func TestCheckTakesValid(t *testing.T) {
	for name, b := range map[string]api.GardenBook{
		"nothing":            {},
		"G":                  bookG(),
		"more":               moreG(),
		"gone":               gone(),
		"calm":               calm(),
		"full":               full(),
		"sorts alone":        {Sorts: api.MaxGardenSorts},
		"gardens alone":      {Costs: list(1, 99, 1, 99, 50, 1)},
		"a loss twice":       {Costs: list(1, 1), Losses: rows(list(0, 1), list(0, 1))},
		"a garden alone":     {Costs: list(1), Losses: rows(list(0), list(0), list(0), list(0), list(0), list(0))},
		"the last tree":      {Sorts: 6, Costs: list(1, 1, 1, 1, 1, 1), Trees: trees(tree(5, 5))},
		"gardens go down":    {Sorts: 2, Costs: list(1, 1), Trees: trees(tree(0, 1), tree(1, 0))},
		"the whole of a row": {Sorts: 1, Costs: list(1, 2, 3), Trees: trees(tree(0, 0), tree(0, 1), tree(0, 2)), Losses: rows(list(0, 1, 2))},
	} {
		if e := gardens.Check(b); e != api.OK {
			t.Errorf("%s: Check = %d", name, e)
		}
	}
}

// wrongBooks are not valid, each for one reason.
func wrongBooks() map[string]api.GardenBook {
	of := func(change func(b *api.GardenBook)) api.GardenBook { return with(bookG(), change) }
	cost := func(cost int) api.GardenBook { return of(func(b *api.GardenBook) { b.Costs[3] = cost }) }
	put := func(at int, is api.GardenTree) api.GardenBook {
		return of(func(b *api.GardenBook) { b.Trees[at] = is })
	}
	loss := func(gardens ...int) api.GardenBook { return of(func(b *api.GardenBook) { b.Losses[1] = gardens }) }
	return map[string]api.GardenBook{
		"sorts below":           {Sorts: -1},
		"sorts far below":       {Sorts: math.MinInt},
		"sorts above":           of(func(b *api.GardenBook) { b.Sorts = api.MaxGardenSorts + 1 }),
		"sorts far above":       of(func(b *api.GardenBook) { b.Sorts = math.MaxInt }),
		"too few sorts":         of(func(b *api.GardenBook) { b.Sorts = 2 }),
		"too many gardens":      of(func(b *api.GardenBook) { b.Costs = list(1, 1, 1, 1, 1, 1, 1) }),
		"too few gardens":       of(func(b *api.GardenBook) { b.Costs = b.Costs[:3] }),
		"a cost below":          cost(0),
		"a cost far below":      cost(math.MinInt),
		"a cost above":          cost(api.MaxGardenCost + 1),
		"a cost far above":      cost(math.MaxInt),
		"a sort below":          put(0, tree(-1, 0)),
		"a sort above":          put(3, tree(3, 3)),
		"a garden below":        put(0, tree(0, -1)),
		"a garden above":        put(3, tree(2, 4)),
		"a tree twice":          put(1, tree(0, 0)),
		"the last tree twice":   put(3, tree(1, 0)),
		"gardens descending":    put(0, tree(0, 2)),
		"sorts descending":      put(3, tree(0, 3)),
		"too many losses":       of(func(b *api.GardenBook) { b.Losses = append(b.Losses, list(0), list(1), list(2), list(3)) }),
		"a loss of nothing":     loss(),
		"a loss below":          loss(-1),
		"a loss above":          loss(4),
		"a loss below first":    loss(-1, 0),
		"a loss above later":    loss(0, 4),
		"a garden lost twice":   loss(1, 1),
		"a loss descending":     loss(0, 2, 1),
		"the last loss":         of(func(b *api.GardenBook) { b.Losses[2] = list(2, 1) }),
		"trees without sorts":   {Costs: list(1), Trees: trees(tree(0, 0))},
		"trees without gardens": {Sorts: 1, Trees: trees(tree(0, 0))},
		"a loss, but no garden": {Losses: rows(list(0))},
	}
}

// P10.1, R1, R2: ErrGarden comes before ErrMany, ErrArg and ErrNone.
func TestWrongBooks(t *testing.T) {
	for name, b := range wrongBooks() {
		for _, a := range []asked{{0, nil}, {-1, list(-1)}, {math.MaxInt, make([]int, 7)}} {
			cases.ExpectError(t, name, calls(b, a), api.ErrGarden)
		}
	}
}

// ErrArg: losses, sorts, gardens and money that are none. It comes before ErrNone, which a sort of gone has.
func TestWrongArguments(t *testing.T) {
	for _, n := range list(-1, math.MinInt, math.MaxInt, api.MaxGardenMoney+1) {
		for _, b := range []api.GardenBook{{}, bookG(), gone(), full()} {
			cases.ExpectError(t, "no number", calls(b, asked{n, list(n)}), api.ErrArg, "Takes", "After", "Years", "Cost", "Plan", "Saves", "Need")
		}
	}
	cases.ExpectError(t, "three losses, three sorts", calls(bookG(), asked{3, list(0, 1, 2, 3)}), api.ErrArg, "Takes", "After", "Years", "Cost", "Plan")
	cases.ExpectError(t, "four gardens", calls(bookG(), asked{4, list(0, -1, 1)}), api.ErrArg, "After", "Years", "Need")
	cases.ExpectError(t, "one loss", calls(gone(), asked{1, list(0, 1)}), api.ErrArg, "Takes", "After", "Years")
	cases.ExpectError(t, "two sorts, two gardens", calls(gone(), asked{2, list(1)}), api.ErrArg, "After", "Years", "Cost", "Plan", "Need")
	cases.ExpectError(t, "six of all", calls(full(), asked{6, list(6)}), api.ErrArg, "Takes", "After", "Years", "Cost", "Plan", "Need")
	cases.ExpectError(t, "no losses", calls(calm(), asked{0, list(0)}), api.ErrArg, "Takes", "After", "Years")
	cases.ExpectError(t, "nothing", calls(api.GardenBook{}, asked{0, list(0)}), api.ErrArg, "Takes", "After", "Years", "Cost", "Plan", "Need")
}

// P10.4, P10.5, R1: ErrMany comes before ErrArg; as many losses as there can be are not too many.
func TestTooManyLosses(t *testing.T) {
	for _, losses := range rows(make([]int, 7), list(-1, 0, 0, 0, 0, 0, 0), list(0, 0, 0, 0, 0, 0, 3), make([]int, 1<<20)) {
		cases.ExpectError(t, "too many", calls(bookG(), asked{0, losses}), api.ErrMany, "After", "Years")
	}
	cases.ExpectError(t, "too many", calls(calm(), asked{0, make([]int, 7)}), api.ErrMany, "After", "Years")
	cases.ExpectError(t, "as many as there can be", calls(bookG(), asked{0, list(0, 0, 0, 0, 0, 3)}), api.ErrArg, "After", "Years")
	if years, e := gardens.Years(bookG(), list(2, 2, 2, 2, 2, 1)); years != 6 || e != api.OK {
		t.Errorf("Years = %d, %d", years, e)
	}
}

// P10.2, P10.3, P10.11, P10.12
func TestLosses(t *testing.T) {
	for name, x := range map[string]struct {
		b          api.GardenBook
		takes      [][]int // by each loss
		safe, weak []int
		need       []int // of each garden
	}{
		"nothing": {api.GardenBook{}, nil, nil, nil, nil},
		"G":       {bookG(), rows(list(0, 1), list(2), nil), nil, list(0, 3), list(0, 0, 0, 0)},
		"more":    {moreG(), rows(list(1), list(2), nil), list(0), list(0, 3), list(1, 0, 1, 0)},
		"gone":    {gone(), rows(list(0, 1)), nil, list(0), list(0, 0)},
		"calm":    {calm(), nil, list(0, 1), list(1), list(0, 0)},
		"pair":    {pair(), rows(list(0), list(0)), nil, list(0), list(0, 0, 0, 0)},
		"three":   {three(), rows(list(0, 1, 2)), nil, list(0), list(0, 0)},
		"even":    {even(), rows(list(0, 1)), nil, list(0), list(0, 0, 0, 0)},
		"mixed":   {mixed(), rows(list(0, 2, 3), list(0, 2, 4)), list(1), list(0, 1, 3), list(1, 1, 0, 0)},
		"full":    {full(), rows(nil, nil, nil, nil, nil, nil), list(0, 1, 2, 3, 4, 5), nil, list(6, 6, 6, 6, 6, 6)},
	} {
		for loss, want := range x.takes {
			if sorts, e := gardens.Takes(x.b, loss); !slices.Equal(sorts, want) || e != api.OK {
				t.Errorf("%s: Takes of %d = %v, %d; want %v", name, loss, sorts, e, want)
			}
		}
		safe, e := gardens.Safe(x.b)
		weak, f := gardens.Weak(x.b)
		if !slices.Equal(safe, x.safe) || !slices.Equal(weak, x.weak) || e != api.OK || f != api.OK {
			t.Errorf("%s: Safe = %v, %d; Weak = %v, %d", name, safe, e, weak, f)
		}
		for garden, want := range x.need {
			if need, e := gardens.Need(x.b, garden); need != want || e != api.OK {
				t.Errorf("%s: Need of %d = %d, %d; want %d", name, garden, need, e, want)
			}
		}
	}
}

// P10.4, P10.5: the gardens, their costs, the sorts and the losses stay.
func TestAfter(t *testing.T) {
	for name, x := range map[string]struct {
		b      api.GardenBook
		losses []int
		left   []api.GardenTree
		years  int // 0: each sort still has a tree
	}{
		"none of G":           {bookG(), nil, bookG().Trees, 0},
		"the first of G":      {bookG(), list(0), trees(tree(2, 3)), 1},
		"the second of G":     {bookG(), list(1), trees(tree(0, 0), tree(0, 1), tree(1, 0)), 1},
		"the third of G":      {bookG(), list(2), trees(tree(0, 0), tree(1, 0), tree(2, 3)), 0},
		"the third one twice": {bookG(), list(2, 2), trees(tree(0, 0), tree(1, 0), tree(2, 3)), 0},
		"the third one first": {bookG(), list(2, 2, 0, 1), nil, 3},
		"all of G":            {bookG(), list(1, 0), nil, 1},
		"all, the other way":  {bookG(), list(0, 1), nil, 1},
		"two of more":         {moreG(), list(2, 1), trees(tree(0, 0), tree(1, 0)), 2},
		"two together":        {even(), list(0), nil, 1},
		"a sort without any":  {gone(), nil, trees(tree(1, 0)), 0},
		"the only one":        {gone(), list(0, 0), nil, 1},
		"no losses":           {calm(), nil, trees(tree(1, 1)), 0},
		"nothing":             {api.GardenBook{}, nil, nil, 0},
		"all but one garden":  {full(), list(2), trees(tree(0, 2), tree(1, 2), tree(2, 2), tree(3, 2), tree(4, 2), tree(5, 2)), 0},
		"that one, too":       {full(), list(2, 2, 5), nil, 3},
		"no tree is taken":    {with(calm(), func(b *api.GardenBook) { b.Losses = rows(list(0)) }), list(0, 0), trees(tree(1, 1)), 0},
	} {
		left, e := gardens.After(x.b, x.losses)
		same := left.Sorts == x.b.Sorts && slices.Equal(left.Costs, x.b.Costs) && slices.EqualFunc(left.Losses, x.b.Losses, slices.Equal[[]int])
		if !slices.Equal(left.Trees, x.left) || !same || e != api.OK {
			t.Errorf("%s: After = %v, %d; want the trees %v", name, left, e, x.left)
		}
		want := api.OK
		if x.years == 0 {
			want = api.ErrNone
		}
		if years, e := gardens.Years(x.b, x.losses); years != x.years || e != want {
			t.Errorf("%s: Years = %d, %d; want %d", name, years, e, x.years)
		}
	}
}

// P10.6 to P10.8; costs below 0 are none.
func TestCosts(t *testing.T) {
	for name, x := range map[string]struct {
		b     api.GardenBook
		costs []int
		plans [][][]int // for each sort all that Plan may return
		sum   int
	}{
		"nothing":      {api.GardenBook{}, nil, nil, 0},
		"G":            {bookG(), list(4, 4, 3), [][][]int{{{2}}, {{2}}, {{1}}}, 11},
		"more":         {moreG(), list(0, 4, 3), [][][]int{{nil}, {{2}}, {{1}}}, 7},
		"gone":         {gone(), list(-1, -1), nil, -1},
		"calm":         {calm(), list(0, 0), [][][]int{{nil}, {nil}}, 0},
		"pair":         {pair(), list(5), [][][]int{{{1, 2}}}, 5},
		"dear":         {dear(), list(4), [][][]int{{{3}}}, 4},
		"pair or one":  {with(pair(), func(b *api.GardenBook) { b.Costs[3] = 5 }), list(5), [][][]int{{{1, 2}, {3}}}, 5},
		"three":        {three(), list(7, 7, 7), [][][]int{{{1}}, {{1}}, {{1}}}, 21},
		"even":         {even(), list(5, 5), [][][]int{{{1}, {2}}, {{1}, {2}}}, 10},
		"mixed":        {mixed(), list(5, 0, -1, 4, 2), nil, -1},
		"four":         {four(), list(5, 3, 3, 1), [][][]int{{{2}}, {{1}}, {{1}}, {{0}}}, 12},
		"full":         {full(), list(0, 0, 0, 0, 0, 0), [][][]int{{nil}, {nil}, {nil}, {nil}, {nil}, {nil}}, 0},
		"the dearest":  {api.GardenBook{Sorts: 1, Costs: list(1, 99, 99, 99, 99, 99), Trees: trees(tree(0, 0)), Losses: rows(list(0, 1, 2, 3, 4), list(0, 5))}, list(198), nil, 198},
		"two of those": {api.GardenBook{Sorts: 2, Costs: list(99, 99), Trees: trees(tree(0, 0), tree(1, 1)), Losses: rows(list(0), list(1))}, list(99, 99), [][][]int{{{1}}, {{0}}}, 198},
		"no such sort": {with(three(), func(b *api.GardenBook) { b.Sorts = 4 }), list(7, 7, 7, -1), nil, -1},
	} {
		for sort, want := range x.costs {
			expectNumber(t, name+": Cost", func(b api.GardenBook) (int, api.Errno) { return gardens.Cost(b, sort) }, x.b, want)
			expectNumber(t, name+": Plan", func(b api.GardenBook) (int, api.Errno) {
				plan, e := gardens.Plan(b, sort)
				return priceOf(b, plan), e
			}, x.b, want)
		}
		for sort, plans := range x.plans {
			plan, _ := gardens.Plan(x.b, sort)
			if !slices.ContainsFunc(plans, func(may []int) bool { return slices.Equal(plan, may) }) {
				t.Errorf("%s: Plan of %d = %v; want one of %v", name, sort, plan, plans)
			}
		}
		expectNumber(t, name+": Sum", gardens.Sum, x.b, x.sum)
	}
}

// priceOf returns what grafts in some gardens cost.
func priceOf(b api.GardenBook, gardens []int) int {
	return cases.Sum(cases.Pick(b.Costs, gardens))
}

// expectNumber checks the result of a call, which is ErrNone if a number below 0 is wanted.
func expectNumber(t *testing.T, about string, call func(b api.GardenBook) (int, api.Errno), b api.GardenBook, want int) {
	t.Helper()
	wantE := api.OK
	if want < 0 {
		want, wantE = 0, api.ErrNone
	}
	if n, e := call(b); n != want || e != wantE {
		t.Errorf("%s of %v = %d, %d; want %d, %d", about, b, n, e, want, wantE)
	}
}

// P10.9
func TestSaves(t *testing.T) {
	for name, x := range map[string]struct {
		b     api.GardenBook
		saves map[int][]int // for each amount of money
	}{
		"nothing": {api.GardenBook{}, map[int][]int{0: nil, 9999: nil}},
		"G":       {bookG(), map[int][]int{0: nil, 2: nil, 3: {2}, 4: {0}, 6: {0}, 7: {0, 2}, 8: {0, 1}, 10: {0, 1}, 11: {0, 1, 2}, 9999: {0, 1, 2}}},
		"more":    {moreG(), map[int][]int{0: {0}, 2: {0}, 3: {0, 2}, 4: {0, 1}, 7: {0, 1, 2}}},
		"gone":    {gone(), map[int][]int{0: nil, 9999: nil}},
		"calm":    {calm(), map[int][]int{0: {0, 1}, 9999: {0, 1}}},
		"three":   {three(), map[int][]int{6: nil, 7: {0}, 13: {0}, 14: {0, 1}, 20: {0, 1}, 21: {0, 1, 2}}},
		"mixed":   {mixed(), map[int][]int{0: {1}, 1: {1}, 2: {1, 4}, 3: {1, 4}, 4: {1, 3}, 5: {0, 1}, 6: {1, 3, 4}, 7: {0, 1, 4}, 8: {0, 1, 4}, 9: {0, 1, 3}, 10: {0, 1, 3}, 11: {0, 1, 3, 4}, 9999: {0, 1, 3, 4}}},
		"four":    {four(), map[int][]int{0: nil, 1: {3}, 2: {3}, 3: {1}, 4: {1, 3}, 5: {1, 3}, 6: {0, 3}, 7: {1, 2, 3}, 8: {1, 2, 3}, 9: {0, 1, 3}, 10: {0, 1, 3}, 11: {0, 1, 2}, 12: {0, 1, 2, 3}}},
		"full":    {full(), map[int][]int{0: {0, 1, 2, 3, 4, 5}}},
	} {
		for money, want := range x.saves {
			if sorts, e := gardens.Saves(x.b, money); !slices.Equal(sorts, want) || e != api.OK {
				t.Errorf("%s: Saves of %d = %v, %d; want %v", name, money, sorts, e, want)
			}
		}
	}
}

// P10.10
func TestNext(t *testing.T) {
	none := tree(-1, -1)
	for name, x := range map[string]struct {
		b    api.GardenBook
		want api.GardenTree
	}{
		"nothing":                {api.GardenBook{}, none},
		"no trees":               {api.GardenBook{Sorts: 2, Costs: list(1, 1), Losses: rows(list(0))}, none},
		"full":                   {full(), none},
		"full, but one":          {with(full(), func(b *api.GardenBook) { b.Trees = slices.Delete(b.Trees, 7, 8) }), tree(1, 1)},
		"G":                      {bookG(), tree(2, 1)},
		"more":                   {moreG(), tree(2, 1)},
		"one loss of two sorts":  {with(bookG(), func(b *api.GardenBook) { b.Losses = rows(list(0, 1)) }), tree(0, 2)},
		"it helps nothing":       {gone(), tree(1, 1)},
		"no losses":              {calm(), tree(1, 0)},
		"the one that helps":     {pair(), tree(0, 3)},
		"the cheapest":           {with(pair(), func(b *api.GardenBook) { b.Costs, b.Losses = list(9, 3, 2, 6), rows(list(0)) }), tree(0, 2)},
		"the first sort":         {three(), tree(0, 1)},
		"the first garden":       {even(), tree(0, 1)},
		"a cheap one of another": {with(even(), func(b *api.GardenBook) { b.Costs[2] = 4 }), tree(0, 2)},
		"a loss twice":           {with(even(), func(b *api.GardenBook) { b.Losses = rows(list(0, 1), list(0, 2), list(0, 2)) }), tree(0, 3)},
		"twice counts twice":     {with(even(), func(b *api.GardenBook) { b.Losses = rows(list(0, 2, 3), list(0, 1, 3), list(0, 1, 3)) }), tree(0, 2)},
		"not the cheapest":       {mixed(), tree(0, 2)},
	} {
		want := api.OK
		if x.want == none {
			x.want, want = tree(0, 0), api.ErrNone
		}
		if graft, e := gardens.Next(x.b); graft != x.want || e != want {
			t.Errorf("%s: Next = %v, %d; want %v, %d", name, graft, e, x.want, want)
		}
	}
}
