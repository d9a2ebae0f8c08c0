package marks_test

import (
	"slices"
	"testing"

	"pippin/api"
	"pippin/cases"
	"pippin/marks"
)

const not = api.MarkNot

// list keeps the tables below short.
func list(numbers ...int) []int { return numbers }

func place(fruit, mark int) api.MarkPlace { return api.MarkPlace{Fruit: fruit, Mark: mark} }

// bookB is the book B of the chapter's examples; bookC is B with Wrong 0.
func bookB() api.MarkBook { return cases.MarkBookB(1) }

func bookC() api.MarkBook { return cases.MarkBookB(0) }

// fruitsF, fruitsH and fruitsG are F, H and G of the chapter's examples.
func fruitsF() [][]int { return [][]int{{0, 0, not}, {0, 1, 0}} }

func fruitsH() [][]int { return append(fruitsF(), list(0, 0, 0)) }

func fruitsG() [][]int { return [][]int{{0, not, not}} }

// fullBook has as much of everything as there can be. All marks of a sort can have the same: its number, or, from the sort 5 on, 5 less, and 4.
func fullBook() api.MarkBook {
	b := api.MarkBook{Wrong: api.MaxMarkWrong}
	for range api.MaxMarks {
		b.Values = append(b.Values, api.MaxMarkValues)
		b.Firm = append(b.Firm, 1)
	}
	for sort := range api.MaxMarkSorts {
		can := list(sort)
		if sort > 4 {
			can = list(sort-5, 4)
		}
		b.Sorts = append(b.Sorts, api.MarkSort{Can: slices.Repeat([][]int{can}, api.MaxMarks)})
	}
	return b
}

// fullFruits are as many as there can be, all of whose marks have one value.
func fullFruits(value int) [][]int {
	return slices.Repeat([][]int{slices.Repeat(list(value), api.MaxMarks)}, api.MaxMarkFruits)
}

// P1.1: what is valid, up to each limit.
func TestCheckTakesValid(t *testing.T) {
	for name, x := range map[string]struct {
		b      api.MarkBook
		fruits [][]int
	}{
		"nothing":           {api.MarkBook{}, nil},
		"no marks":          {api.MarkBook{Sorts: make([]api.MarkSort, api.MaxMarkSorts)}, make([][]int, api.MaxMarkFruits)},
		"no sorts":          {api.MarkBook{Values: list(5), Firm: list(1)}, [][]int{{4}}},
		"no fruits":         {bookB(), nil},
		"nothing looked at": {bookB(), [][]int{{not, not, not}}},
		"all looked at":     {bookB(), [][]int{{0, 0, 0}, {1, 2, 2}}},
		"one value":         {api.MarkBook{Values: list(1), Firm: list(0), Sorts: []api.MarkSort{{Can: [][]int{{0}}}}}, [][]int{{0}}},
		"each limit":        {fullBook(), fullFruits(4)},
		"all values":        {api.MarkBook{Values: list(5), Firm: list(0), Sorts: []api.MarkSort{{Can: [][]int{{0, 1, 2, 3, 4}}}}}, nil},
	} {
		if e := marks.Check(x.b, x.fruits); e != api.OK {
			t.Errorf("%s: Check = %d", name, e)
		}
	}
}

// wrongBooks are not valid, each for one reason, but for those that go one beyond a limit of fullBook.
func wrongBooks() map[string]api.MarkBook {
	books := map[string]api.MarkBook{}
	add := func(name string, b api.MarkBook, change func(b *api.MarkBook)) {
		change(&b)
		books[name] = b
	}
	add("too many marks", fullBook(), func(b *api.MarkBook) {
		b.Values, b.Firm = append(b.Values, 1), append(b.Firm, 0)
		for sort := range b.Sorts {
			b.Sorts[sort].Can = append(b.Sorts[sort].Can, list(0))
		}
	})
	add("too many values", bookB(), func(b *api.MarkBook) { b.Values[1] = api.MaxMarkValues + 1 })
	add("no value", api.MarkBook{}, func(b *api.MarkBook) { b.Values, b.Firm = list(0), list(0) })
	add("fewer values than none", api.MarkBook{}, func(b *api.MarkBook) { b.Values, b.Firm = list(-1), list(0) })
	add("too few firm", bookB(), func(b *api.MarkBook) { b.Firm = b.Firm[:2] })
	add("too many firm", bookB(), func(b *api.MarkBook) { b.Firm = append(b.Firm, 0) })
	add("no firm", bookB(), func(b *api.MarkBook) { b.Firm = nil })
	add("firm above 1", bookB(), func(b *api.MarkBook) { b.Firm[2] = 2 })
	add("firm below 0", bookB(), func(b *api.MarkBook) { b.Firm[0] = -1 })
	add("too many sorts", fullBook(), func(b *api.MarkBook) { b.Sorts = append(b.Sorts, b.Sorts[0]) })
	add("too few lists", bookB(), func(b *api.MarkBook) { b.Sorts[2].Can = b.Sorts[2].Can[:2] })
	add("too many lists", bookB(), func(b *api.MarkBook) { b.Sorts[0].Can = append(b.Sorts[0].Can, list(0)) })
	add("no lists", bookB(), func(b *api.MarkBook) { b.Sorts[1] = api.MarkSort{} })
	add("a list without values", bookB(), func(b *api.MarkBook) { b.Sorts[2].Can[2] = nil })
	add("a value above", bookB(), func(b *api.MarkBook) { b.Sorts[0].Can[0] = list(2) })
	add("a value below", bookB(), func(b *api.MarkBook) { b.Sorts[0].Can[1] = list(-1, 0) })
	add("not a value", bookB(), func(b *api.MarkBook) { b.Sorts[0].Can[1] = list(not) })
	add("values twice", bookB(), func(b *api.MarkBook) { b.Sorts[1].Can[2] = list(1, 1) })
	add("values descending", bookB(), func(b *api.MarkBook) { b.Sorts[1].Can[2] = list(2, 1) })
	add("wrong below 0", bookB(), func(b *api.MarkBook) { b.Wrong = -1 })
	add("wrong above", bookB(), func(b *api.MarkBook) { b.Wrong = api.MaxMarkWrong + 1 })
	return books
}

// wrongFruits are not valid for bookB.
func wrongFruits() map[string][][]int {
	return map[string][][]int{
		"too many":       slices.Repeat([][]int{{0, 0, 0}}, api.MaxMarkFruits+1),
		"too few marks":  {{0, 0, 0}, {0, 0}},
		"too many marks": {{0, 0, 0, not}},
		"no marks":       {nil},
		"a value above":  {{0, 0, 0}, {2, 0, 0}},
		"the last above": {{0, 0, 3}},
		"below not":      {{0, not - 1, 0}},
	}
}

// asked is what is asked for by numbers.
type asked struct {
	sort, other, fruit int
	place              api.MarkPlace
}

// ofFruits calls all functions that have fruits.
func ofFruits(b api.MarkBook, fruits [][]int, a asked) []cases.Outcome {
	wrong, e1 := marks.Wrong(b, fruits, a.sort)
	fewest, e2 := marks.Fewest(b, fruits)
	sorts, e3 := marks.Sorts(b, fruits)
	is, e4 := marks.Is(b, fruits, a.sort)
	values, e5 := marks.Values(b, fruits, a.place)
	mistakes, e6 := marks.Mistakes(b, fruits)
	after, e7 := marks.After(b, fruits, a.place)
	next, e8 := marks.Next(b, fruits, a.fruit)
	return []cases.Outcome{
		cases.Got("Check", 0, marks.Check(b, fruits)), cases.Got("Wrong", wrong, e1), cases.Got("Fewest", fewest, e2), cases.Got("Sorts", len(sorts), e3), cases.Got("Is", is, e4),
		cases.Got("Values", len(values), e5), cases.Got("Mistakes", len(mistakes), e6), cases.Got("After", after, e7), cases.Got("Next", next, e8),
	}
}

// ofBook calls all functions that have none.
func ofBook(b api.MarkBook, a asked) []cases.Outcome {
	apart, e1 := marks.Apart(b, a.sort, a.other)
	twins, e2 := marks.Twins(b, a.sort)
	return []cases.Outcome{cases.Got("Apart", len(apart), e1), cases.Got("Twins", len(twins), e2)}
}

// P1.1, R1, R2: ErrMark comes before all other errors, then ErrFruit, then ErrArg.
func TestErrorsInOrder(t *testing.T) {
	nowhere := asked{sort: -1, other: 99, fruit: -1, place: place(-1, -1)}
	for name, b := range wrongBooks() {
		cases.ExpectError(t, name, ofFruits(b, [][]int{nil, {9}}, nowhere), api.ErrMark)
		cases.ExpectError(t, name, ofBook(b, nowhere), api.ErrMark)
		cases.ExpectError(t, name, ofFruits(b, nil, asked{}), api.ErrMark)
		cases.ExpectError(t, name, ofBook(b, asked{}), api.ErrMark)
	}
	for name, fruits := range wrongFruits() {
		cases.ExpectError(t, name, ofFruits(bookB(), fruits, nowhere), api.ErrFruit)
		cases.ExpectError(t, name, ofFruits(bookB(), fruits, asked{}), api.ErrFruit)
		b := bookB()
		b.Sorts = nil
		cases.ExpectError(t, name, ofFruits(b, fruits, asked{}), api.ErrFruit)
	}
}

// ErrArg comes before ErrNone: of F there is no truth in C.
func TestNumbersThatAreNone(t *testing.T) {
	b, fruits := bookC(), fruitsF()
	for _, sort := range list(-1, 3, 99) {
		_, e1 := marks.Wrong(b, fruits, sort)
		_, e2 := marks.Is(b, fruits, sort)
		_, e3 := marks.Apart(b, sort, 0)
		_, e4 := marks.Apart(b, 0, sort)
		_, e5 := marks.Apart(b, sort, sort)
		_, e6 := marks.Twins(b, sort)
		for i, e := range []api.Errno{e1, e2, e3, e4, e5, e6} {
			if e != api.ErrArg {
				t.Errorf("sort %d: error %d of the call %d", sort, e, i)
			}
		}
	}
	for _, p := range []api.MarkPlace{place(-1, 2), place(2, 2), place(0, -1), place(0, 3)} {
		values, e1 := marks.Values(b, fruits, p)
		after, e2 := marks.After(b, fruits, p)
		if e1 != api.ErrArg || e2 != api.ErrArg || len(values)+after != 0 {
			t.Errorf("%v: Values = %v, %d; After = %d, %d", p, values, e1, after, e2)
		}
	}
	for _, fruit := range list(-1, 2) {
		if mark, e := marks.Next(b, fruits, fruit); mark != 0 || e != api.ErrArg {
			t.Errorf("Next of %d = %d, %d", fruit, mark, e)
		}
	}
	for _, p := range []api.MarkPlace{place(0, 0), place(0, 1), place(1, 2)} {
		if after, e := marks.After(b, fruits, p); after != 0 || e != api.ErrArg {
			t.Errorf("After of %v, which was looked at, = %d, %d", p, after, e)
		}
	}
	cases.ExpectError(t, "no sorts", ofBook(api.MarkBook{}, asked{}), api.ErrArg)
}

// ErrNone: there is no truth, or no sort.
func TestNoTruth(t *testing.T) {
	outcomes := ofFruits(bookC(), fruitsF(), asked{place: place(0, 2)})
	cases.ExpectError(t, "C, F", outcomes[3:], api.ErrNone)
	empty := api.MarkBook{Values: list(2), Firm: list(0)}
	for _, o := range ofFruits(empty, [][]int{{not}}, asked{}) {
		want := api.ErrNone
		switch o.Name {
		case "Check":
			want = api.OK
		case "Wrong", "Is":
			want = api.ErrArg
		}
		cases.ExpectError(t, "no sorts", []cases.Outcome{o}, want)
	}
}

// P1.2, P1.3
func TestWrongAndFewest(t *testing.T) {
	firm := api.MarkBook{Values: list(3), Firm: list(1), Sorts: []api.MarkSort{{Can: [][]int{{0, 1}}}, {Can: [][]int{{0, 1, 2}}}, {Can: [][]int{{2}}}}}
	loose := firm
	loose.Firm = list(0)
	seen := [][]int{{0}, {1}, {2}, {2}, {not}}
	for name, x := range map[string]struct {
		b      api.MarkBook
		fruits [][]int
		wrong  []int
		fewest int
	}{
		"B, F":              {bookB(), fruitsF(), list(1, 2, 4), 1},
		"C, F":              {bookC(), fruitsF(), list(1, 2, 4), 1},
		"B, H":              {bookB(), fruitsH(), list(1, 4, 6), 1},
		"no fruits":         {bookC(), nil, list(0, 0, 0), 0},
		"nothing looked at": {bookC(), [][]int{{not, not, not}}, list(0, 0, 0), 0},
		"all looked at":     {bookC(), [][]int{{1, 2, 1}}, list(3, 1, 0), 0},
		"a firm mark":       {firm, seen, list(3, 2, 2), 2},
		"a loose mark":      {loose, seen, list(2, 0, 2), 0},
		"no marks":          {api.MarkBook{Sorts: make([]api.MarkSort, 2)}, [][]int{nil, nil}, list(0, 0), 0},
		"all of it, 4":      {fullBook(), fullFruits(4), list(30, 30, 30, 30, 0, 0, 0, 0), 0},
		"all of it, 1":      {fullBook(), fullFruits(1), list(30, 0, 30, 30, 30, 30, 0, 30), 0},
	} {
		for sort, want := range x.wrong {
			if n, e := marks.Wrong(x.b, x.fruits, sort); n != want || e != api.OK {
				t.Errorf("%s: Wrong of %d = %d, %d; want %d", name, sort, n, e, want)
			}
		}
		if n, e := marks.Fewest(x.b, x.fruits); n != x.fewest || e != api.OK {
			t.Errorf("%s: Fewest = %d, %d; want %d", name, n, e, x.fewest)
		}
	}
}

// P1.4, P1.5
func TestSortsAndIs(t *testing.T) {
	nine := bookB()
	nine.Wrong = api.MaxMarkWrong
	for name, x := range map[string]struct {
		b      api.MarkBook
		fruits [][]int
		sorts  []int
		is     []int
	}{
		"B, F":              {bookB(), fruitsF(), list(0), list(api.Surely, api.Never, api.Never)},
		"B, G":              {bookB(), fruitsG(), list(0, 1, 2), list(api.Perhaps, api.Perhaps, api.Perhaps)},
		"C, G":              {bookC(), fruitsG(), list(0, 1), list(api.Perhaps, api.Perhaps, api.Never)},
		"nine wrong":        {nine, fruitsH(), list(0, 1, 2), list(api.Perhaps, api.Perhaps, api.Perhaps)},
		"no fruits":         {bookC(), nil, list(0, 1, 2), list(api.Perhaps, api.Perhaps, api.Perhaps)},
		"nothing looked at": {bookC(), [][]int{{not, not, not}}, list(0, 1, 2), list(api.Perhaps, api.Perhaps, api.Perhaps)},
		"all looked at":     {bookC(), [][]int{{1, 1, 2}}, list(1), list(api.Never, api.Surely, api.Never)},
		"all of it":         {fullBook(), fullFruits(2), list(2, 7), list(api.Never, api.Never, api.Perhaps, api.Never, api.Never, api.Never, api.Never, api.Perhaps)},
		"one sort alone":    {api.MarkBook{Sorts: make([]api.MarkSort, 1)}, nil, list(0), list(api.Surely)},
	} {
		if sorts, e := marks.Sorts(x.b, x.fruits); !slices.Equal(sorts, x.sorts) || e != api.OK {
			t.Errorf("%s: Sorts = %v, %d; want %v", name, sorts, e, x.sorts)
		}
		for sort, want := range x.is {
			if n, e := marks.Is(x.b, x.fruits, sort); n != want || e != api.OK {
				t.Errorf("%s: Is of %d = %d, %d; want %d", name, sort, n, e, want)
			}
		}
	}
}

// P1.6
func TestValues(t *testing.T) {
	for name, x := range map[string]struct {
		b      api.MarkBook
		fruits [][]int
		p      api.MarkPlace
		want   []int
	}{
		"B, F, 0 1":             {bookB(), fruitsF(), place(0, 1), list(0, 1)},
		"B, F, 0 2":             {bookB(), fruitsF(), place(0, 2), list(0)},
		"B, H, 1 1":             {bookB(), fruitsH(), place(1, 1), list(0)},
		"nothing looked at":     {bookC(), [][]int{{not, not, not}}, place(0, 2), list(0, 1, 2)},
		"firm, of another one":  {bookC(), [][]int{{not, not, not}, {not, 2, not}}, place(0, 1), list(2)},
		"loose, of another one": {bookC(), [][]int{{not, 2, not}, {not, not, 1}}, place(0, 2), list(0, 1)},
		"seen, but wrong":       {bookB(), [][]int{{0, 2, 1}}, place(0, 0), list(0, 1)},
		"a value that none has": {api.MarkBook{Values: list(4), Firm: list(0), Sorts: []api.MarkSort{{Can: [][]int{{3}}}, {Can: [][]int{{1}}}}}, [][]int{{not}}, place(0, 0), list(1, 3)},
	} {
		if values, e := marks.Values(x.b, x.fruits, x.p); !slices.Equal(values, x.want) || e != api.OK {
			t.Errorf("%s: Values = %v, %d; want %v", name, values, e, x.want)
		}
	}
}

// P1.7
func TestMistakes(t *testing.T) {
	two := bookB()
	two.Wrong = 2
	for name, x := range map[string]struct {
		b      api.MarkBook
		fruits [][]int
		want   []api.MarkPlace
	}{
		"B, F":              {bookB(), fruitsF(), nil},
		"B, H":              {bookB(), fruitsH(), []api.MarkPlace{place(1, 1)}},
		"by the fruits":     {two, [][]int{{0, 0, 2}, {1, 0, 0}, {0, 0, 0}}, []api.MarkPlace{place(0, 2), place(1, 0)}},
		"by the marks":      {two, [][]int{{0, 0, 0}, {1, 0, 2}, {0, 0, 0}}, []api.MarkPlace{place(1, 0), place(1, 2)}},
		"no fruits":         {bookB(), nil, nil},
		"nothing looked at": {bookB(), [][]int{{not, not, not}}, nil},
		"all right":         {bookC(), [][]int{{0, 1, 0}, {0, 1, 0}}, nil},
	} {
		if found, e := marks.Mistakes(x.b, x.fruits); !slices.Equal(found, x.want) || e != api.OK {
			t.Errorf("%s: Mistakes = %v, %d; want %v", name, found, e, x.want)
		}
	}
}

// P1.8, P1.9
func TestAfterAndNext(t *testing.T) {
	split := api.MarkBook{Values: list(2, 3, 3), Firm: list(0, 0, 0), Sorts: []api.MarkSort{{Can: [][]int{{0}, {0}, {0}}}, {Can: [][]int{{0}, {1}, {1}}}, {Can: [][]int{{1}, {2}, {2}}}}}
	for name, x := range map[string]struct {
		b      api.MarkBook
		fruits [][]int
		fruit  int
		after  []int // by the marks; 0: it was looked at
		next   int   // not: there is none
	}{
		"C, G":                {bookC(), fruitsG(), 0, list(0, 2, 1), 2},
		"B, G":                {bookB(), fruitsG(), 0, list(0, 3, 3), 1},
		"one sort":            {bookB(), fruitsF(), 0, list(0, 0, 1), not},
		"all looked at":       {bookB(), [][]int{{0, 1, 1}}, 0, list(0, 0, 0), not},
		"the first of two":    {split, [][]int{{not, not, not}}, 0, list(2, 1, 1), 1},
		"of another fruit":    {split, [][]int{{0, 0, 0}, {not, not, not}}, 1, list(1, 1, 1), not},
		"no marks":            {api.MarkBook{Sorts: make([]api.MarkSort, 2)}, [][]int{nil}, 0, nil, not},
		"firm, seen of other": {bookC(), [][]int{{not, 1, not}, {not, not, not}}, 1, list(2, 2, 1), 2},
	} {
		for mark, want := range x.after {
			if want == 0 {
				continue
			}
			if n, e := marks.After(x.b, x.fruits, place(x.fruit, mark)); n != want || e != api.OK {
				t.Errorf("%s: After of %d = %d, %d; want %d", name, mark, n, e, want)
			}
		}
		next, e := marks.Next(x.b, x.fruits, x.fruit)
		if x.next == not && (next != 0 || e != api.ErrNone) || x.next != not && (next != x.next || e != api.OK) {
			t.Errorf("%s: Next = %d, %d; want %d", name, next, e, x.next)
		}
	}
}

// P1.10, P1.11
func TestApartAndTwins(t *testing.T) {
	for name, x := range map[string]struct {
		b          api.MarkBook
		one, other int
		want       []int
	}{
		"B, 0 1":        {bookB(), 0, 1, list(2)},
		"B, 1 0":        {bookB(), 1, 0, list(2)},
		"B, 0 2":        {bookB(), 0, 2, list(0, 1)},
		"B, 1 2":        {bookB(), 1, 2, list(1)},
		"both the same": {bookB(), 2, 2, nil},
		"no marks":      {api.MarkBook{Sorts: make([]api.MarkSort, 2)}, 0, 1, nil},
		"all marks":     {fullBook(), 0, 1, list(0, 1, 2, 3, 4, 5)},
		"the last":      {fullBook(), 5, 7, nil},
	} {
		if found, e := marks.Apart(x.b, x.one, x.other); !slices.Equal(found, x.want) || e != api.OK {
			t.Errorf("%s: Apart = %v, %d; want %v", name, found, e, x.want)
		}
	}
	for name, x := range map[string]struct {
		b    api.MarkBook
		sort int
		want []int
	}{
		"B, 0":      {bookB(), 0, nil},
		"the full":  {fullBook(), 5, list(0, 4, 6, 7)},
		"of it, 3":  {fullBook(), 3, nil},
		"of it, 7":  {fullBook(), 7, list(2, 4, 5, 6)},
		"no marks":  {api.MarkBook{Sorts: make([]api.MarkSort, 3)}, 1, list(0, 2)},
		"one alone": {api.MarkBook{Sorts: make([]api.MarkSort, 1)}, 0, nil},
	} {
		if found, e := marks.Twins(x.b, x.sort); !slices.Equal(found, x.want) || e != api.OK {
			t.Errorf("%s: Twins = %v, %d; want %v", name, found, e, x.want)
		}
	}
}
