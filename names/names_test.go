package names_test

import (
	"slices"
	"testing"

	"pippin/api"
	"pippin/cases"
	"pippin/names"
)

// list keeps the tables below short.
func list(numbers ...int) []int { return numbers }

func one(a, b int) api.NameLetter { return api.NameLetter{A: a, B: b, Same: 1} }

func two(a, b int) api.NameLetter { return api.NameLetter{A: a, B: b} }

func pair(a, b int) api.NamePair { return api.NamePair{A: a, B: b} }

func book(many int, letters ...api.NameLetter) api.NameBook {
	return api.NameBook{Names: many, Letters: letters}
}

// with returns a book with more letters.
func with(b api.NameBook, letters ...api.NameLetter) api.NameBook {
	b.Letters = slices.Concat(b.Letters, letters)
	return b
}

// bookN and bookC are N and C of the chapter's examples.
func bookN() api.NameBook { return book(5, one(0, 1), one(1, 2), two(3, 4), two(2, 3)) }

func bookC() api.NameBook { return with(bookN(), two(0, 2)) }

// chain has eight names of one sort, joined by one letter each, and a short cut.
func chain() api.NameBook {
	return book(8, one(1, 0), one(1, 2), one(3, 2), one(3, 4), one(5, 4), one(5, 6), one(7, 6), one(2, 6))
}

// fork has names joined in a row, which parts behind the fourth one.
func fork() api.NameBook {
	return book(6, one(0, 1), one(1, 2), one(2, 3), one(3, 4), one(3, 5))
}

// ring has so many names each of which is not the next one.
func ring(many int) api.NameBook {
	b := book(many)
	for name := range many {
		b.Letters = append(b.Letters, two(name, (name+1)%many))
	}
	return b
}

// differing has so many names each two of which are two.
func differing(many int) api.NameBook {
	b := book(many)
	for c := range many {
		for a := range c {
			b.Letters = append(b.Letters, two(c, a))
		}
	}
	return b
}

// crown has names of two sorts, one after the other, each two of which are two unless they are neighbours as 0 and 1, 2 and 3, and so on: giving each name the first sort that it can have would take four sorts.
func crown() api.NameBook {
	b := book(8)
	for c := range 8 {
		for a := range c {
			if a/2 != c/2 && a%2 != c%2 {
				b.Letters = append(b.Letters, two(a, c))
			}
		}
	}
	return b
}

// twice has each letter of six pairs, and its opposite: as many letters as there can be.
func twice() api.NameBook {
	b := book(4)
	for c := range 4 {
		for a := range c {
			b.Letters = append(b.Letters, one(a, c), two(c, a))
		}
	}
	return b
}

// asked is the names that are asked for.
type asked struct{ a, c int }

// calls calls all functions.
func calls(b api.NameBook, x asked) []cases.Outcome {
	clash, e1 := names.Clash(b)
	proof, e2 := names.Proof(b)
	first, e3 := names.First(b)
	drop, e4 := names.Drop(b)
	keep, e5 := names.Keep(b)
	of, e6 := names.Of(b, x.a)
	says, e7 := names.Says(b, x.a, x.c)
	row, e8 := names.Row(b, x.a, x.c)
	sorts, e9 := names.Sorts(b)
	paint, e10 := names.Paint(b)
	open, e11 := names.Open(b)
	after, e12 := names.After(b, x.a, x.c)
	next, e13 := names.Next(b)
	return []cases.Outcome{
		cases.Got("Check", 0, names.Check(b)), cases.Got("Clash", clash, e1), cases.Got("Proof", len(proof), e2), cases.Got("First", first, e3), cases.Got("Drop", drop, e4), cases.Got("Keep", len(keep), e5), cases.Got("Of", len(of), e6),
		cases.Got("Says", says, e7), cases.Got("Row", len(row), e8), cases.Got("Sorts", sorts.Low+sorts.High, e9), cases.Got("Paint", len(paint), e10), cases.Got("Open", open, e11), cases.Got("After", after, e12), cases.Got("Next", next.A+next.B, e13),
	}
}

// P4.1: what is valid, up to each limit.
func TestCheckTakesValid(t *testing.T) {
	for name, b := range map[string]api.NameBook{
		"nothing":           {},
		"names alone":       book(api.MaxNames),
		"N":                 bookN(),
		"C":                 bookC(),
		"a letter, often":   book(api.MaxNames, slices.Repeat([]api.NameLetter{one(7, 0)}, api.MaxNameLetters)...),
		"all the opposites": twice(),
		"the last names":    book(2, two(1, 0), one(0, 1)),
	} {
		if e := names.Check(b); e != api.OK {
			t.Errorf("%s: Check = %d", name, e)
		}
	}
}

// wrongBooks are not valid, each for one reason.
func wrongBooks() map[string]api.NameBook {
	return map[string]api.NameBook{
		"fewer names than none":     book(-1),
		"too many names":            book(api.MaxNames + 1),
		"too many letters":          with(twice(), one(0, 1)),
		"too many equal letters":    book(2, slices.Repeat([]api.NameLetter{one(0, 1)}, api.MaxNameLetters+1)...),
		"the A below":               book(5, one(-1, 1)),
		"the B below":               book(5, two(1, -1)),
		"the A above":               book(5, two(5, 1)),
		"the B above":               book(5, one(1, 5)),
		"a name and itself, one":    book(5, one(2, 2)),
		"a name and itself, two":    book(5, two(2, 2)),
		"Same above":                book(5, api.NameLetter{A: 0, B: 1, Same: 2}),
		"Same below":                book(5, api.NameLetter{A: 0, B: 1, Same: -1}),
		"the last letter":           with(bookC(), api.NameLetter{A: 0, B: 1, Same: 3}),
		"a letter without names":    book(0, one(0, 1)),
		"a letter on a single name": book(1, one(0, 1)),
	}
}

// P4.1, R1, R2: ErrName comes before all other errors.
func TestWrongBooks(t *testing.T) {
	for name, b := range wrongBooks() {
		for _, x := range []asked{{0, 1}, {1, 1}, {-1, 99}} {
			cases.ExpectError(t, name, calls(b, x), api.ErrName)
		}
	}
}

// ErrArg comes before ErrClash and ErrNone.
func TestNamesThatAreNone(t *testing.T) {
	for _, b := range []api.NameBook{bookN(), bookC()} {
		for _, name := range list(-1, 5, 99) {
			cases.ExpectError(t, "one name", calls(b, asked{name, 0}), api.ErrArg, "Of", "Says", "Row", "After")
			cases.ExpectError(t, "the other name", calls(b, asked{0, name}), api.ErrArg, "Says", "Row", "After")
			cases.ExpectError(t, "both names", calls(b, asked{name, name}), api.ErrArg, "Of", "Says", "Row", "After")
		}
		for name := range b.Names {
			cases.ExpectError(t, "a name and itself", calls(b, asked{name, name}), api.ErrArg, "Says", "Row", "After")
		}
	}
	cases.ExpectError(t, "no names", calls(book(0), asked{0, 0}), api.ErrArg, "Of", "Says", "Row", "After")
	cases.ExpectError(t, "a single name", calls(book(1), asked{0, 1}), api.ErrArg, "Says", "Row", "After")
}

// ErrClash comes before ErrNone, and six functions answer a book that contradicts itself.
func TestBooksThatContradict(t *testing.T) {
	answer := list(0, 1, 2, 3, 4, 5)
	for _, b := range []api.NameBook{bookC(), twice(), with(chain(), two(0, 7))} {
		for _, x := range []asked{{0, 1}, {3, 0}} {
			outcomes := calls(b, x)
			cases.ExpectError(t, "Check to Keep", zeroed(cases.Pick(outcomes, answer)), api.OK)
			cases.ExpectError(t, "the others", outcomes[len(answer):], api.ErrClash)
		}
	}
}

// zeroed returns outcomes of which the error alone matters.
func zeroed(outcomes []cases.Outcome) []cases.Outcome {
	for at := range outcomes {
		outcomes[at].Result = 0
	}
	return outcomes
}

// ErrNone: nothing is contradicted, two names are not surely one, or all is known.
func TestNone(t *testing.T) {
	for _, b := range []api.NameBook{book(0), book(3), bookN(), chain(), ring(5)} {
		cases.ExpectError(t, "not contradicted", calls(b, asked{0, 1}), api.ErrNone, "Clash", "Proof", "First")
	}
	for _, x := range []asked{{0, 3}, {4, 3}, {0, 4}, {4, 1}} {
		cases.ExpectError(t, "not one in N", calls(bookN(), x), api.ErrNone, "Row")
	}
	for _, b := range []api.NameBook{book(0), book(1), chain(), differing(5), book(2, two(0, 1))} {
		cases.ExpectError(t, "all known", calls(b, asked{}), api.ErrNone, "Next")
	}
}

// P4.2 to P4.6
func TestContradictions(t *testing.T) {
	for name, x := range map[string]struct {
		b      api.NameBook
		proofs [][]int // the ones that can be; none: the book does not contradict itself
		first  int
		drop   int
	}{
		"nothing":                {book(0), nil, 0, 0},
		"N":                      {bookN(), nil, 0, 0},
		"C":                      {bookC(), [][]int{{0, 1, 4}}, 4, 1},
		"C, and one more":        {with(bookC(), one(0, 3)), [][]int{{0, 1, 4}}, 4, 1},
		"said twice":             {book(2, two(0, 1), two(1, 0), two(0, 1)), nil, 0, 0},
		"two pairs":              {book(4, one(0, 1), two(1, 0), one(2, 3), two(3, 2)), [][]int{{0, 1}, {2, 3}}, 1, 2},
		"the shorter row":        {book(3, two(0, 2), one(0, 1), one(1, 2), one(0, 2)), [][]int{{0, 3}}, 2, 1},
		"the shorter one first":  {book(3, two(0, 2), one(0, 2), one(1, 2), one(0, 1)), [][]int{{0, 1}}, 1, 1},
		"one against many":       {book(3, one(0, 1), one(0, 1), one(0, 1), two(0, 1)), [][]int{{0, 3}, {1, 3}, {2, 3}}, 3, 1},
		"many against one":       {book(2, one(0, 1), two(0, 1), two(0, 1), two(1, 0)), [][]int{{0, 1}, {0, 2}, {0, 3}}, 1, 1},
		"the joined ones differ": {book(4, one(0, 1), one(2, 3), two(1, 2), one(3, 0)), [][]int{{0, 1, 2, 3}}, 3, 1},
		"a ring of five":         {with(ring(5), one(0, 2), one(2, 4)), [][]int{{4, 5, 6}}, 6, 1},
		"the longest":            {book(8, one(0, 1), one(1, 2), one(2, 3), one(3, 4), one(4, 5), one(5, 6), one(6, 7), two(7, 0)), [][]int{{0, 1, 2, 3, 4, 5, 6, 7}}, 7, 1},
		"a short cut":            {with(chain(), two(0, 7)), [][]int{{0, 1, 6, 7, 8}}, 8, 1},
		"all the opposites":      {twice(), [][]int{{0, 1}, {2, 3}, {4, 5}, {6, 7}, {8, 9}, {10, 11}}, 1, 6},
		"one in the middle":      {book(4, one(0, 1), one(1, 2), one(1, 3), two(0, 2), two(2, 3), two(3, 0)), [][]int{{0, 1, 3}, {1, 2, 4}, {0, 2, 5}}, 3, 2},
	} {
		if len(x.proofs) == 0 {
			cases.ExpectError(t, name, calls(x.b, asked{}), api.ErrNone, "Clash", "Proof", "First")
		} else {
			clash, e := names.Clash(x.b)
			proof, f := names.Proof(x.b)
			first, g := names.First(x.b)
			if clash != len(x.proofs[0]) || first != x.first || !isIn(x.proofs, proof) || e != api.OK || f != api.OK || g != api.OK {
				t.Errorf("%s: Clash = %d, %d; Proof = %v, %d; First = %d, %d", name, clash, e, proof, f, first, g)
			}
		}
		if drop, e := names.Drop(x.b); drop != x.drop || e != api.OK {
			t.Errorf("%s: Drop = %d, %d; want %d", name, drop, e, x.drop)
		}
		expectKept(t, x.b, x.drop)
	}
}

func isIn(lists [][]int, one []int) bool {
	return slices.ContainsFunc(lists, func(other []int) bool { return slices.Equal(other, one) })
}

// expectKept checks that Keep leaves out so many letters, and that the others are as some sorts of the names are.
func expectKept(t *testing.T, b api.NameBook, drop int) {
	t.Helper()
	keep, e := names.Keep(b)
	if e != api.OK || len(keep) != len(b.Letters)-drop || !ascending(keep, len(b.Letters)) {
		t.Errorf("Keep of %v = %v, %d; want all but %d", b, keep, e, drop)
		return
	}
	if len(readings(only(b, keep))) == 0 {
		t.Errorf("Keep of %v = %v, which contradict one another", b, keep)
	}
}

// ascending reports whether a list is strictly ascending, with numbers of so many things.
func ascending(numbers []int, many int) bool {
	for at, number := range numbers {
		if number < 0 || number >= many || at > 0 && number <= numbers[at-1] {
			return false
		}
	}
	return true
}

// P4.7, P4.8, P4.9
func TestWhatIsSaid(t *testing.T) {
	for name, x := range map[string]struct {
		b    api.NameBook
		a, c int
		of   []int
		says int
		rows [][]int // the ones that can be; none: there is none
	}{
		"N, 0 2":             {bookN(), 0, 2, list(0, 1, 2), api.Surely, [][]int{{0, 1}}},
		"N, 2 0":             {bookN(), 2, 0, list(0, 1, 2), api.Surely, [][]int{{1, 0}}},
		"N, 1 0":             {bookN(), 1, 0, list(0, 1, 2), api.Surely, [][]int{{0}}},
		"N, 0 3":             {bookN(), 0, 3, list(0, 1, 2), api.Never, nil},
		"N, 3 0":             {bookN(), 3, 0, list(3), api.Never, nil},
		"N, 4 3":             {bookN(), 4, 3, list(4), api.Never, nil},
		"N, 0 4":             {bookN(), 0, 4, list(0, 1, 2), api.Perhaps, nil},
		"N, 4 2":             {bookN(), 4, 2, list(4), api.Perhaps, nil},
		"ring, neighbours":   {ring(5), 4, 0, list(4), api.Never, nil},
		"ring, not so":       {ring(5), 3, 0, list(3), api.Perhaps, nil},
		"nothing said":       {book(2), 1, 0, list(1), api.Perhaps, nil},
		"said twice":         {book(2, one(1, 0), one(0, 1)), 0, 1, list(0, 1), api.Surely, [][]int{{0}, {1}}},
		"two ways":           {book(4, one(0, 1), one(2, 3), one(2, 0), one(3, 1)), 0, 3, list(0, 1, 2, 3), api.Surely, [][]int{{0, 3}, {2, 1}}},
		"chain, short cut":   {chain(), 0, 7, list(0, 1, 2, 3, 4, 5, 6, 7), api.Surely, [][]int{{0, 1, 7, 6}}},
		"chain, back":        {chain(), 7, 0, list(0, 1, 2, 3, 4, 5, 6, 7), api.Surely, [][]int{{6, 7, 1, 0}}},
		"chain, in the ring": {chain(), 3, 5, list(0, 1, 2, 3, 4, 5, 6, 7), api.Surely, [][]int{{3, 4}}},
		"a fork, far off":    {fork(), 0, 4, list(0, 1, 2, 3, 4, 5), api.Surely, [][]int{{0, 1, 2, 3}}},
		"its other side":     {fork(), 0, 5, list(0, 1, 2, 3, 4, 5), api.Surely, [][]int{{0, 1, 2, 4}}},
		"joined on a side":   {book(5, one(0, 1), one(2, 3), two(1, 2)), 3, 0, list(2, 3), api.Never, nil},
		"two on both sides":  {book(5, one(0, 1), two(1, 2), one(3, 4)), 3, 0, list(3, 4), api.Perhaps, nil},
	} {
		of, e := names.Of(x.b, x.a)
		says, f := names.Says(x.b, x.a, x.c)
		if !slices.Equal(of, x.of) || says != x.says || e != api.OK || f != api.OK {
			t.Errorf("%s: Of = %v, %d; Says = %d, %d", name, of, e, says, f)
		}
		if len(x.rows) == 0 {
			cases.ExpectError(t, name, calls(x.b, asked{x.a, x.c}), api.ErrNone, "Row")
		} else if row, e := names.Row(x.b, x.a, x.c); !isIn(x.rows, row) || e != api.OK {
			t.Errorf("%s: Row = %v, %d; want one of %v", name, row, e, x.rows)
		}
	}
	if of, e := names.Of(book(1), 0); !slices.Equal(of, list(0)) || e != api.OK {
		t.Errorf("a single name: Of = %v, %d", of, e)
	}
}

// P4.10 to P4.12
func TestSortsAndOpen(t *testing.T) {
	for name, x := range map[string]struct {
		b         api.NameBook
		low, high int
		open      int
	}{
		"no names":        {book(0), 0, 0, 0},
		"a single name":   {book(1), 1, 1, 0},
		"nothing said":    {book(8), 1, 8, 28},
		"N":               {bookN(), 2, 3, 3},
		"one sort":        {chain(), 1, 1, 0},
		"five sorts":      {differing(5), 5, 5, 0},
		"an even ring":    {ring(6), 2, 6, 9},
		"an odd ring":     {ring(7), 3, 7, 14},
		"the longest":     {ring(8), 2, 8, 20},
		"two of three":    {book(3, one(0, 1)), 1, 2, 2},
		"three pairs":     {book(6, two(0, 3), two(1, 4), two(2, 5)), 2, 6, 12},
		"not at once":     {crown(), 2, 8, 16},
		"joined, a ring":  {with(ring(5), one(0, 2)), 3, 4, 2},
		"five, and three": {book(8, differing(5).Letters...), 5, 8, 18},
	} {
		sorts, e := names.Sorts(x.b)
		open, f := names.Open(x.b)
		if sorts != (api.Span{Low: x.low, High: x.high}) || open != x.open || e != api.OK || f != api.OK {
			t.Errorf("%s: Sorts = %v, %d; Open = %d, %d", name, sorts, e, open, f)
		}
		expectPainted(t, x.b, x.low)
	}
	if paint, e := names.Paint(bookN()); !isIn([][]int{{0, 0, 0, 1, 0}, {1, 1, 1, 0, 1}}, paint) || e != api.OK {
		t.Errorf("N: Paint = %v, %d", paint, e)
	}
}

// expectPainted checks that Paint returns a reading with just so many sorts.
func expectPainted(t *testing.T, b api.NameBook, many int) {
	t.Helper()
	paint, e := names.Paint(b)
	if e != api.OK || len(paint) != b.Names || !allHold(b, paint) {
		t.Errorf("Paint of %v = %v, %d", b, paint, e)
		return
	}
	for sort := range many {
		if !slices.Contains(paint, sort) {
			t.Errorf("Paint of %v = %v; want the sorts below %d", b, paint, many)
		}
	}
	if len(once(paint)) != many {
		t.Errorf("Paint of %v = %v; want %d sorts", b, paint, many)
	}
}

// P4.13, P4.14
func TestOneMoreLetterAsked(t *testing.T) {
	// two names that are one, of which another one may be, with as many letters as there can be
	full := book(4, slices.Repeat([]api.NameLetter{one(0, 1)}, api.MaxNameLetters)...)
	for name, x := range map[string]struct {
		b     api.NameBook
		a, c  int
		after int
		next  api.NamePair // both 0: there is none
	}{
		"N, 0 4":           {bookN(), 0, 4, 0, pair(0, 4)},
		"N, 4 2":           {bookN(), 4, 2, 0, pair(0, 4)},
		"N, known as one":  {bookN(), 2, 1, 3, pair(0, 4)},
		"N, known as two":  {bookN(), 3, 4, 3, pair(0, 4)},
		"nothing said":     {book(4), 2, 3, 5, pair(0, 1)},
		"ring":             {ring(5), 4, 1, 4, pair(0, 2)},
		"two of three":     {book(3, one(0, 1)), 2, 0, 0, pair(0, 2)},
		"one sort":         {chain(), 0, 4, 0, pair(0, 0)},
		"five sorts":       {differing(5), 4, 0, 0, pair(0, 0)},
		"not the first":    {book(4, one(2, 3)), 0, 1, 4, pair(0, 2)},
		"the last pair":    {book(6, one(2, 3), one(4, 5), two(0, 2), two(0, 4), two(1, 2), two(1, 4), two(0, 1)), 2, 5, 0, pair(2, 4)},
		"each letter used": {full, 2, 3, 4, pair(0, 2)},
		"each, one group":  {full, 0, 3, 3, pair(0, 2)},
	} {
		after, e := names.After(x.b, x.a, x.c)
		next, f := names.Next(x.b)
		want := api.OK
		if x.next.B == 0 {
			want = api.ErrNone
		}
		if after != x.after || next != x.next || e != api.OK || f != want {
			t.Errorf("%s: After = %d, %d; Next = %v, %d", name, after, e, next, f)
		}
	}
}
