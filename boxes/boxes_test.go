package boxes_test

import (
	"slices"
	"testing"

	"pippin/api"
	"pippin/boxes"
	"pippin/cases"
)

const not = api.MarkNot

// list keeps the tables below short.
func list(numbers ...int) []int { return numbers }

func pair(a, b int) api.BoxPair { return api.BoxPair{A: a, B: b} }

func fruits() [][]int { return [][]int{{0, 0, 0}, {1, 2, 1}, {0, 1, not}, {0, not, 0}} }

// boxX and boxY are X and Y of the chapter's examples, with some fruits tied.
func boxX(tied ...api.BoxPair) api.Box {
	return api.Box{Book: cases.MarkBookB(0), Fruits: fruits(), Trees: 3, Tied: tied}
}

func boxY(tied ...api.BoxPair) api.Box {
	return api.Box{Book: cases.MarkBookB(1), Fruits: fruits(), Trees: 2, Tied: tied}
}

// with returns a box of which something was changed.
func with(x api.Box, change func(x *api.Box)) api.Box {
	change(&x)
	return x
}

// single has one mark, and fruits with values of it. Of three sorts one has the value 0, one 0 or 1, and one 2.
func single(firm, wrong, trees int, seen ...int) api.Box {
	x := api.Box{Book: api.MarkBook{Values: list(3), Firm: list(firm), Sorts: []api.MarkSort{{Can: [][]int{{0}}}, {Can: [][]int{{0, 1}}}, {Can: [][]int{{2}}}}, Wrong: wrong}, Trees: trees}
	for _, value := range seen {
		x.Fruits = append(x.Fruits, list(value))
	}
	return x
}

// rowBox has one mark, with a value of its own in each of four fruits, and a sort of 0 and 1, one of 0 and 2, and one of 1 and 3.
func rowBox() api.Box {
	x := single(0, 0, 3, 0, 1, 2, 3)
	x.Book.Values = list(4)
	x.Book.Sorts = []api.MarkSort{{Can: [][]int{{0, 1}}}, {Can: [][]int{{0, 2}}}, {Can: [][]int{{1, 3}}}}
	return x
}

// fullBox has as much of everything as there can be. Each sort has its number, or 5 less, as all its values.
func fullBox() api.Box {
	x := api.Box{Trees: api.MaxBoxTrees, Tied: slices.Repeat([]api.BoxPair{pair(3, 4)}, api.MaxBoxTied)}
	x.Book.Values = slices.Repeat(list(api.MaxMarkValues), api.MaxMarks)
	x.Book.Firm = slices.Repeat(list(1), api.MaxMarks)
	x.Book.Wrong = api.MaxMarkWrong
	for sort := range api.MaxMarkSorts {
		x.Book.Sorts = append(x.Book.Sorts, api.MarkSort{Can: slices.Repeat([][]int{{sort % 5}}, api.MaxMarks)})
	}
	for fruit := range api.MaxMarkFruits {
		x.Fruits = append(x.Fruits, slices.Repeat(list(min(fruit, 3)), api.MaxMarks))
	}
	return x
}

// asked is the fruits that are asked for.
type asked struct{ one, other int }

// calls calls all functions.
func calls(x api.Box, a asked) []cases.Outcome {
	fewest, e1 := boxes.Fewest(x)
	best, e2 := boxes.Best(x)
	partings, e3 := boxes.Partings(x)
	many, e4 := boxes.Many(x)
	trees, e5 := boxes.Trees(x)
	kinds, e6 := boxes.Kinds(x)
	together, e7 := boxes.Together(x, a.one, a.other)
	sorts, e8 := boxes.Sorts(x, a.one)
	sure, e9 := boxes.Sure(x)
	ask, e10 := boxes.Ask(x)
	return []cases.Outcome{
		cases.Got("Check", 0, boxes.Check(x)), cases.Got("Fewest", fewest, e1), cases.Got("Best", len(best), e2), cases.Got("Partings", len(partings), e3), cases.Got("Many", many, e4), cases.Got("Trees", trees, e5),
		cases.Got("Kinds", kinds, e6), cases.Got("Together", together, e7), cases.Got("Sorts", len(sorts), e8), cases.Got("Sure", len(sure), e9), cases.Got("Ask", ask.A+ask.B, e10),
	}
}

// P3.1: what is valid, up to each limit.
func TestCheckTakesValid(t *testing.T) {
	for name, x := range map[string]api.Box{
		"no fruits":        {Trees: 1},
		"no sorts":         {Book: api.MarkBook{Values: list(1), Firm: list(0)}, Fruits: [][]int{{0}}, Trees: 3},
		"X":                boxX(),
		"Y":                boxY(),
		"one tree":         single(0, 0, 1, 0, 2),
		"more trees":       single(0, 0, 3, 0),
		"each limit":       fullBox(),
		"all pairs of X":   boxX(pair(0, 1), pair(0, 2), pair(0, 3), pair(1, 2), pair(1, 3), pair(2, 3)),
		"one pair, often":  boxY(pair(0, 3), pair(0, 3), pair(0, 3)),
		"pairs, any order": boxY(pair(2, 3), pair(0, 1)),
	} {
		if e := boxes.Check(x); e != api.OK {
			t.Errorf("%s: Check = %d", name, e)
		}
	}
}

// wrongBoxes are not valid, each for one reason, but their books and fruits are.
func wrongBoxes() map[string]api.Box {
	return map[string]api.Box{
		"nothing":               {},
		"no trees":              with(boxX(), func(x *api.Box) { x.Trees = 0 }),
		"fewer trees than none": with(boxX(), func(x *api.Box) { x.Trees = -1 }),
		"too many trees":        with(boxX(), func(x *api.Box) { x.Trees = api.MaxBoxTrees + 1 }),
		"too many pairs":        with(fullBox(), func(x *api.Box) { x.Tied = append(x.Tied, pair(0, 1)) }),
		"a fruit with itself":   boxX(pair(2, 2)),
		"the greater one first": boxX(pair(3, 2)),
		"a fruit below":         boxX(pair(-1, 2)),
		"a fruit above":         boxX(pair(2, 4)),
		"two fruits above":      boxX(pair(4, 5)),
		"the last pair":         boxX(pair(0, 1), pair(0, 3), pair(1, 0)),
		"a pair of no fruits":   {Trees: 1, Tied: []api.BoxPair{pair(0, 1)}},
		"a pair of one fruit":   with(single(0, 0, 1, 0), func(x *api.Box) { x.Tied = []api.BoxPair{pair(0, 1)} }),
	}
}

// P3.1, R1, R2: ErrMark comes first, then ErrFruit, then ErrBox, then ErrArg.
func TestErrorsInOrder(t *testing.T) {
	wrongMark := func(x *api.Box) { x.Book.Wrong = api.MaxMarkWrong + 1 }
	wrongFruit := func(x *api.Box) { x.Fruits = append(x.Fruits, make([]int, api.MaxMarks+1)) }
	for name, x := range wrongBoxes() {
		for _, a := range []asked{{}, {1, 2}, {-1, 99}} {
			cases.ExpectError(t, name, calls(x, a), api.ErrBox)
			cases.ExpectError(t, name, calls(with(x, wrongMark), a), api.ErrMark)
			cases.ExpectError(t, name, calls(with(x, wrongFruit), a), api.ErrFruit)
			cases.ExpectError(t, name, calls(with(with(x, wrongFruit), wrongMark), a), api.ErrMark)
		}
	}
	for _, x := range []api.Box{boxX(), boxY(), fullBox()} {
		cases.ExpectError(t, "a wrong book", calls(with(x, wrongMark), asked{-1, 99}), api.ErrMark)
		cases.ExpectError(t, "a wrong fruit", calls(with(x, wrongFruit), asked{-1, 99}), api.ErrFruit)
	}
	cases.ExpectError(t, "too many fruits", calls(single(0, 0, 2, 0, 0, 0, 0, 0, 0), asked{}), api.ErrFruit)
}

// noTruth is X with two trees: something was written wrongly, though nothing can have been.
func noTruth() api.Box { return with(boxX(), func(x *api.Box) { x.Trees = 2 }) }

// ErrArg comes before ErrNone.
func TestFruitsThatAreNone(t *testing.T) {
	for _, x := range []api.Box{boxX(), boxY(), noTruth()} {
		for _, fruit := range list(-1, 4, 99) {
			cases.ExpectError(t, "one fruit", calls(x, asked{fruit, 0}), api.ErrArg, "Together", "Sorts")
			cases.ExpectError(t, "the other one", calls(x, asked{0, fruit}), api.ErrArg, "Together")
			cases.ExpectError(t, "both", calls(x, asked{fruit, fruit}), api.ErrArg, "Together", "Sorts")
		}
	}
	cases.ExpectError(t, "no fruits", calls(api.Box{Trees: 2}, asked{}), api.ErrArg, "Together", "Sorts")
}

// ErrNone: there is no truth, or no sort, or only one parting.
func TestNoTruth(t *testing.T) {
	known := list(3, 4, 5, 6, 7, 8, 9, 10)
	outcomes := calls(noTruth(), asked{0, 0})
	cases.ExpectError(t, "X with two trees", cases.Pick(outcomes, known), api.ErrNone)
	outcomes = calls(boxY(pair(0, 1)), asked{1, 1})
	cases.ExpectError(t, "Y with 0 and 1 tied", cases.Pick(outcomes, known), api.ErrNone)
	for _, seen := range list(not, 0) {
		x := with(single(0, api.MaxMarkWrong, 3, seen), func(x *api.Box) { x.Book.Sorts = nil })
		cases.ExpectError(t, "no sorts", calls(x, asked{})[1:], api.ErrNone)
	}
	for name, x := range map[string]api.Box{"one fruit": single(0, 0, 3, 0), "no fruits": {Trees: 3}, "one tree": single(0, 0, 1, 0, 0), "Y with 0 and 2 tied": boxY(pair(0, 2))} {
		cases.ExpectError(t, name, calls(x, asked{}), api.ErrNone, "Ask")
	}
}

// P3.2, P3.3
func TestFewestAndBest(t *testing.T) {
	for name, x := range map[string]struct {
		x      api.Box
		fewest int
		best   []int
	}{
		"X":                      {boxX(), 0, list(0, 1, 2, 0)},
		"X with two trees":       {noTruth(), 1, list(0, 1, 0, 0)},
		"Y":                      {boxY(), 1, list(0, 1, 0, 0)},
		"Y with 0 and 1 tied":    {boxY(pair(0, 1)), 2, list(0, 0, 1, 1)},
		"no fruits":              {api.Box{Trees: 3}, 0, nil},
		"no fruits, but sorts":   {single(0, 0, 2), 0, nil},
		"one fruit":              {single(1, 0, 3, 2), 0, list(0)},
		"nothing looked at":      {single(1, 0, 3, not, not, not), 0, list(0, 0, 0)},
		"a loose mark":           {single(0, 0, 3, 0, 1), 0, list(0, 0)},
		"a firm mark":            {single(1, 0, 3, 0, 1), 0, list(0, 1)},
		"a firm mark, one tree":  {single(1, 0, 1, 0, 1, 1), 1, list(0, 0, 0)},
		"more wrong than can be": {single(1, 0, 1, 0, 1, 2, 0, 1), 3, list(0, 0, 0, 0, 0)},
		"the least of several":   {single(0, 0, 3, 0, not, 2), 0, list(0, 0, 1)},
		"trees before numbers":   {rowBox(), 0, list(0, 1, 0, 1)},
		"two tied":               {with(single(0, 0, 3, 0, not, 2), func(x *api.Box) { x.Tied = []api.BoxPair{pair(1, 2)} }), 0, list(0, 1, 1)},
		"three tied":             {with(single(0, 1, 3, 0, 2, 2), func(x *api.Box) { x.Tied = []api.BoxPair{pair(0, 1), pair(0, 2)} }), 1, list(0, 0, 0)},
		"two tied to one":        {with(single(0, 0, 3, 2, not, 0, not), func(x *api.Box) { x.Tied = []api.BoxPair{pair(0, 3), pair(1, 3)} }), 0, list(0, 0, 1, 0)},
		"each limit":             {fullBox(), 6, list(0, 0, 1, 2, 2)},
	} {
		if n, e := boxes.Fewest(x.x); n != x.fewest || e != api.OK {
			t.Errorf("%s: Fewest = %d, %d; want %d", name, n, e, x.fewest)
		}
		if parting, e := boxes.Best(x.x); !slices.Equal(parting, x.best) || e != api.OK {
			t.Errorf("%s: Best = %v, %d; want %v", name, parting, e, x.best)
		}
	}
}

// P3.4 to P3.10
func TestKnown(t *testing.T) {
	for name, x := range map[string]struct {
		x            api.Box
		partings     [][]int
		trees, kinds int
		sorts        [][]int // of each fruit
		sure         []int
		ask          api.BoxPair // both 0: there is none
	}{
		"X":                    {boxX(), [][]int{{0, 1, 2, 0}, {0, 1, 2, 2}}, 3, 2, [][]int{{0}, {2}, {0, 1}, {0}}, list(0, 2), pair(0, 3)},
		"Y":                    {boxY(), [][]int{{0, 1, 0, 0}, {0, 1, 1, 0}}, 2, 2, [][]int{{0}, {1, 2}, {0, 1}, {0}}, list(0), pair(0, 2)},
		"Y with 0 and 2 tied":  {boxY(pair(0, 2)), [][]int{{0, 1, 0, 0}}, 2, 2, [][]int{{0}, {2}, {0}, {0}}, list(0, 2), pair(0, 0)},
		"no fruits":            {api.Box{Trees: 2}, [][]int{nil}, 0, 0, nil, nil, pair(0, 0)},
		"no fruits, but sorts": {single(0, 0, 2), [][]int{nil}, 0, 0, nil, nil, pair(0, 0)},
		"one fruit":            {single(0, 0, 3, 1), [][]int{{0}}, 1, 1, [][]int{{1}}, list(1), pair(0, 0)},
		"one of any sort":      {single(0, 0, 3, not), [][]int{{0}}, 1, 1, [][]int{{0, 1, 2}}, nil, pair(0, 0)},
		"one tree":             {single(0, 0, 1, 0, not), [][]int{{0, 0}}, 1, 1, [][]int{{0, 1}, {0, 1}}, nil, pair(0, 0)},
		"one tree or two":      {single(0, 0, 2, 2, 2), [][]int{{0, 0}, {0, 1}}, 1, 1, [][]int{{2}, {2}}, list(2), pair(0, 1)},
		"a firm mark":          {single(1, 0, 3, 0, 1, 0), [][]int{{0, 1, 0}, {0, 1, 2}}, 2, 1, [][]int{{0, 1}, {1}, {0, 1}}, list(1), pair(0, 2)},
		"one is wrong":         {single(1, 1, 1, 2, 2, 0), [][]int{{0, 0, 0}}, 1, 1, [][]int{{2}, {2}, {2}}, list(2), pair(0, 0)},
		"two trees or three":   {rowBox(), [][]int{{0, 0, 1, 2}, {0, 1, 0, 1}, {0, 1, 0, 2}, {0, 1, 2, 1}}, 2, 2, [][]int{{0, 1}, {0, 2}, {1}, {2}}, list(1, 2), pair(0, 2)},
		"of two trees a sort":  {single(0, 0, 2, 2, 0), [][]int{{0, 1}}, 2, 2, [][]int{{2}, {0, 1}}, list(2), pair(0, 0)},
	} {
		partings, e := boxes.Partings(x.x)
		if !slices.EqualFunc(partings, x.partings, slices.Equal) || e != api.OK {
			t.Errorf("%s: Partings = %v, %d; want %v", name, partings, e, x.partings)
		}
		many, e1 := boxes.Many(x.x)
		trees, e2 := boxes.Trees(x.x)
		kinds, e3 := boxes.Kinds(x.x)
		if many != len(x.partings) || trees != x.trees || kinds != x.kinds || e1 != api.OK || e2 != api.OK || e3 != api.OK {
			t.Errorf("%s: Many = %d, %d; Trees = %d, %d; Kinds = %d, %d", name, many, e1, trees, e2, kinds, e3)
		}
		for fruit, want := range x.sorts {
			if sorts, e := boxes.Sorts(x.x, fruit); !slices.Equal(sorts, want) || e != api.OK {
				t.Errorf("%s: Sorts of %d = %v, %d; want %v", name, fruit, sorts, e, want)
			}
		}
		if sure, e := boxes.Sure(x.x); !slices.Equal(sure, x.sure) || e != api.OK {
			t.Errorf("%s: Sure = %v, %d; want %v", name, sure, e, x.sure)
		}
		if ask, e := boxes.Ask(x.x); ask != x.ask || (e == api.OK) != (x.ask.B > 0) {
			t.Errorf("%s: Ask = %v, %d; want %v", name, ask, e, x.ask)
		}
	}
}

// P3.7
func TestTogether(t *testing.T) {
	for name, x := range map[string]struct {
		x          api.Box
		one, other int
		want       int
	}{
		"X, 0 2":            {boxX(), 0, 2, api.Never},
		"X, 0 3":            {boxX(), 0, 3, api.Perhaps},
		"X, 3 0":            {boxX(), 3, 0, api.Perhaps},
		"X, 0 1":            {boxX(), 0, 1, api.Never},
		"Y, 0 2":            {boxY(), 0, 2, api.Perhaps},
		"Y, 0 3":            {boxY(), 0, 3, api.Surely},
		"Y, 3 0":            {boxY(), 3, 0, api.Surely},
		"Y, 3 1":            {boxY(), 3, 1, api.Never},
		"itself":            {boxX(), 2, 2, api.Surely},
		"itself, the last":  {single(0, 0, 1, 2), 0, 0, api.Surely},
		"tied":              {boxX(pair(2, 3)), 3, 2, api.Surely},
		"tied to the third": {with(single(0, 0, 3, 0, 0, 0), func(x *api.Box) { x.Tied = []api.BoxPair{pair(0, 2), pair(1, 2)} }), 0, 1, api.Surely},
		"of one sort":       {single(0, 0, 2, 0, 0), 0, 1, api.Perhaps},
	} {
		if n, e := boxes.Together(x.x, x.one, x.other); n != x.want || e != api.OK {
			t.Errorf("%s: Together = %d, %d; want %d", name, n, e, x.want)
		}
	}
}

// The limits at once: five fruits of eight sorts, and nine wrong values.
func TestEachLimit(t *testing.T) {
	x := fullBox()
	partings, e := boxes.Partings(x)
	if e != api.OK || len(partings) == 0 {
		t.Fatalf("Partings = %v, %d", partings, e)
	}
	for _, parting := range partings {
		if len(parting) != len(x.Fruits) || slices.Max(parting) != 2 || parting[3] != parting[4] {
			t.Errorf("the parting %v", parting)
		}
	}
	x.Tied = nil
	for seen := range x.Fruits {
		clear(x.Fruits[seen])
	}
	// five fruits can be parted into one, two or three trees in 1 + 15 + 25 ways
	if many, e := boxes.Many(x); many != 41 || e != api.OK {
		t.Errorf("Many of five equal fruits = %d, %d; want 41", many, e)
	}
	if sorts, e := boxes.Sorts(x, 4); !slices.Equal(sorts, list(0, 1, 2, 3, 4, 5, 6, 7)) || e != api.OK {
		t.Errorf("Sorts of a tree that can be a single fruit = %v, %d", sorts, e)
	}
}
