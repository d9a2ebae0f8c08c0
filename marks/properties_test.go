package marks_test

import (
	"reflect"
	"slices"
	"testing"

	"pippin/api"
	"pippin/cases"
	"pippin/marks"
)

// wrongOf and sortsLeft are for valid cases: no error but ErrNone.
func wrongOf(t *testing.T, b api.MarkBook, fruits [][]int, sort int) int {
	t.Helper()
	n, e := marks.Wrong(b, fruits, sort)
	if e != api.OK {
		t.Fatalf("Wrong of %v, %v, %d: error %d", b, fruits, sort, e)
	}
	return n
}

func sortsLeft(t *testing.T, b api.MarkBook, fruits [][]int) []int {
	t.Helper()
	sorts, e := marks.Sorts(b, fruits)
	if e != api.OK && e != api.ErrNone {
		t.Fatalf("Sorts of %v, %v: error %d", b, fruits, e)
	}
	return sorts
}

// P1.12 (each truth)
func TestEachTruth(t *testing.T) {
	eachCase(func(_ *cases.Dice, b api.MarkBook, fruits [][]int) {
		sorts := sortsLeft(t, b, fruits)
		fewest, _ := marks.Fewest(b, fruits)
		for _, x := range truths(b, fruits) {
			if !slices.Contains(sorts, x.Sort) || x.Wrong < wrongOf(t, b, fruits, x.Sort) || x.Wrong < fewest {
				t.Errorf("%v, %v: the truth %v; Sorts %v, Fewest %d", b, fruits, x, sorts, fewest)
			}
			for fruit, real := range x.Real {
				for mark, value := range real {
					if values, _ := marks.Values(b, fruits, place(fruit, mark)); !slices.Contains(values, value) {
						t.Errorf("%v, %v: the truth %v; Values of %d %d are %v", b, fruits, x, fruit, mark, values)
					}
				}
			}
		}
	})
}

// P1.13 (one more)
func TestOneMore(t *testing.T) {
	eachCase(func(d *cases.Dice, b api.MarkBook, fruits [][]int) {
		fruit := d.Fruit(b, 3)
		seen := len(fruit)
		for _, value := range fruit {
			if value == not {
				seen--
			}
		}
		expectMore(t, b, fruits, append(cases.CopyRows(fruits), fruit), seen)
		for fruit, row := range fruits {
			for mark, value := range row {
				if value == not {
					expectMore(t, b, fruits, seeing(fruits, fruit, mark, d.Below(b.Values[mark])), 1)
				}
			}
		}
	})
}

// expectMore compares fruits with those that have so many values more.
func expectMore(t *testing.T, b api.MarkBook, fruits, more [][]int, values int) {
	t.Helper()
	if !cases.Subset(sortsLeft(t, b, more), sortsLeft(t, b, fruits)) {
		t.Errorf("%v: a sort of %v is none of %v", b, more, fruits)
	}
	for sort := range b.Sorts {
		was, is := wrongOf(t, b, fruits, sort), wrongOf(t, b, more, sort)
		if is < was || is > was+values {
			t.Errorf("%v: Wrong of %d is %d of %v, and %d of %v", b, sort, was, fruits, is, more)
		}
	}
}

// P1.14 (more leave)
func TestMoreLeave(t *testing.T) {
	eachCase(func(_ *cases.Dice, b api.MarkBook, fruits [][]int) {
		wider := cases.CopyMarkBook(b)
		wider.Wrong++
		expectWider(t, b, wider, fruits)
		for mark := range b.Values {
			wider := cases.CopyMarkBook(b)
			wider.Firm[mark] = 0
			expectWider(t, b, wider, fruits)
			for sort := range b.Sorts {
				for value := range b.Values[mark] {
					wider := cases.CopyMarkBook(b)
					can := append(wider.Sorts[sort].Can[mark], value)
					slices.Sort(can)
					wider.Sorts[sort].Can[mark] = slices.Compact(can)
					expectWider(t, b, wider, fruits)
				}
			}
		}
	})
}

func expectWider(t *testing.T, b, wider api.MarkBook, fruits [][]int) {
	t.Helper()
	if !cases.Subset(sortsLeft(t, b, fruits), sortsLeft(t, wider, fruits)) {
		t.Errorf("%v: a sort of %v is none of %v", fruits, b, wider)
	}
	for sort := range b.Sorts {
		if was, is := wrongOf(t, b, fruits, sort), wrongOf(t, wider, fruits, sort); is > was {
			t.Errorf("%v: Wrong of %d is %d in %v, and %d in %v", fruits, sort, was, b, is, wider)
		}
	}
}

// order is which of the things comes to each place.
type order struct{ marks, sorts, fruits []int }

// P1.15 (any order)
func TestAnyOrder(t *testing.T) {
	eachCase(func(d *cases.Dice, b api.MarkBook, fruits [][]int) {
		o := order{d.Shuffled(len(b.Values)), d.Shuffled(len(b.Sorts)), d.Shuffled(len(fruits))}
		other := api.MarkBook{Values: cases.Pick(b.Values, o.marks), Firm: cases.Pick(b.Firm, o.marks), Wrong: b.Wrong}
		for _, sort := range cases.Pick(b.Sorts, o.sorts) {
			other.Sorts = append(other.Sorts, api.MarkSort{Can: cases.Pick(sort.Can, o.marks)})
		}
		var turned [][]int
		for _, fruit := range cases.Pick(fruits, o.fruits) {
			turned = append(turned, cases.Pick(fruit, o.marks))
		}
		expectSorts(t, b, other, fruits, turned, o)
		expectPlaces(t, b, other, fruits, turned, o)
	})
}

func expectSorts(t *testing.T, b, other api.MarkBook, fruits, turned [][]int, o order) {
	t.Helper()
	fewest, e := marks.Fewest(b, fruits)
	if n, f := marks.Fewest(other, turned); n != fewest || f != e {
		t.Errorf("%v, %v: Fewest %d; in another order %d", b, fruits, fewest, n)
	}
	if sorts, turn := sortsLeft(t, b, fruits), cases.Back(sortsLeft(t, other, turned), o.sorts); !slices.Equal(sorts, turn) {
		t.Errorf("%v, %v: Sorts %v; in another order %v", b, fruits, sorts, turn)
	}
	for sort, was := range o.sorts {
		if n, turn := wrongOf(t, b, fruits, was), wrongOf(t, other, turned, sort); n != turn {
			t.Errorf("%v, %v: Wrong of %d %d; in another order %d", b, fruits, was, n, turn)
		}
		is, e := marks.Is(b, fruits, was)
		if n, f := marks.Is(other, turned, sort); n != is || f != e {
			t.Errorf("%v, %v: Is of %d %d; in another order %d", b, fruits, was, is, n)
		}
		twins, _ := marks.Twins(b, was)
		if turn, _ := marks.Twins(other, sort); !slices.Equal(twins, cases.Back(turn, o.sorts)) {
			t.Errorf("%v: Twins of %d %v; in another order %v", b, was, twins, cases.Back(turn, o.sorts))
		}
		for sort2, was2 := range o.sorts {
			apart, _ := marks.Apart(b, was, was2)
			if turn, _ := marks.Apart(other, sort, sort2); !slices.Equal(apart, cases.Back(turn, o.marks)) {
				t.Errorf("%v: Apart of %d %d %v; in another order %v", b, was, was2, apart, cases.Back(turn, o.marks))
			}
		}
	}
}

func expectPlaces(t *testing.T, b, other api.MarkBook, fruits, turned [][]int, o order) {
	t.Helper()
	mistakes, _ := marks.Mistakes(b, fruits)
	turn, _ := marks.Mistakes(other, turned)
	if len(mistakes) != len(turn) {
		t.Errorf("%v, %v: Mistakes %v; in another order %v", b, fruits, mistakes, turn)
	}
	for _, p := range turn {
		if !slices.Contains(mistakes, place(o.fruits[p.Fruit], o.marks[p.Mark])) {
			t.Errorf("%v, %v: Mistakes %v; in another order %v", b, fruits, mistakes, turn)
		}
	}
	for fruit, wasFruit := range o.fruits {
		for mark, wasMark := range o.marks {
			values, e1 := marks.Values(b, fruits, place(wasFruit, wasMark))
			turn, e2 := marks.Values(other, turned, place(fruit, mark))
			after, e3 := marks.After(b, fruits, place(wasFruit, wasMark))
			turnAfter, e4 := marks.After(other, turned, place(fruit, mark))
			if !slices.Equal(values, turn) || e1 != e2 || after != turnAfter || e3 != e4 {
				t.Errorf("%v, %v, %d %d: Values %v, After %d; in another order %v, %d", b, fruits, wasFruit, wasMark, values, after, turn, turnAfter)
			}
		}
	}
}

// P1.16 (told apart)
func TestToldApart(t *testing.T) {
	eachCase(func(d *cases.Dice, b api.MarkBook, fruits [][]int) {
		fruits = append(fruits, d.Fruit(b, 4))
		sorts := sortsLeft(t, b, fruits)
		for one := range b.Sorts {
			for other := range b.Sorts {
				apart, _ := marks.Apart(b, one, other)
				if sum := wrongOf(t, b, fruits, one) + wrongOf(t, b, fruits, other); sum < len(apart) {
					t.Errorf("%v, %v: Wrong of %d and %d is %d, but %v tell them apart", b, fruits, one, other, sum, apart)
				}
				if cases.Subset(list(one, other), sorts) && len(apart) > 2*b.Wrong {
					t.Errorf("%v, %v: both %d and %d are in Sorts, but %v tell them apart", b, fruits, one, other, apart)
				}
			}
		}
	})
}

// P1.17 (the next mark)
func TestNextMark(t *testing.T) {
	eachCase(func(_ *cases.Dice, b api.MarkBook, fruits [][]int) {
		sorts := len(sortsLeft(t, b, fruits))
		for fruit, seen := range fruits {
			next, e := marks.Next(b, fruits, fruit)
			if e != api.OK {
				continue
			}
			least, _ := marks.After(b, fruits, place(fruit, next))
			for value := range b.Values[next] {
				if then := sortsLeft(t, b, seeing(fruits, fruit, next, value)); len(then) > least {
					t.Errorf("%v, %v: %d more, %d, gives %v; After is %d", b, fruits, next, value, then, least)
				}
			}
			for mark, value := range seen {
				if value != not {
					continue
				}
				after, e := marks.After(b, fruits, place(fruit, mark))
				if e != api.OK || after < least || after < 1 || after > sorts {
					t.Errorf("%v, %v: After of %d = %d, %d; of the next mark %d", b, fruits, mark, after, e, least)
				}
			}
		}
	})
}

// P1.18 (nothing seen)
func TestNothingSeen(t *testing.T) {
	eachCase(func(_ *cases.Dice, b api.MarkBook, fruits [][]int) {
		var none [][]int
		for range fruits {
			none = append(none, slices.Repeat(list(not), len(b.Values)))
		}
		sorts := sortsLeft(t, b, none)
		for one := range b.Sorts {
			if !slices.Contains(sorts, one) || wrongOf(t, b, none, one) != 0 {
				t.Errorf("%v: nothing was seen; Sorts %v, Wrong of %d %d", b, sorts, one, wrongOf(t, b, none, one))
			}
			twins, _ := marks.Twins(b, one)
			for other := range b.Sorts {
				both := slices.ContainsFunc(cases.AllBelow(b.Values), func(fruit []int) bool {
					return wrongOf(t, b, [][]int{fruit}, one) == 0 && wrongOf(t, b, [][]int{fruit}, other) == 0
				})
				if one != other && both != slices.Contains(twins, other) {
					t.Errorf("%v: Twins of %d are %v; with %d some fruit has no wrong values: %t", b, one, twins, other, both)
				}
			}
		}
	})
}

// R4: no argument is changed, and no result is a part of one.
func TestNewMemory(t *testing.T) {
	eachCase(func(_ *cases.Dice, b api.MarkBook, fruits [][]int) {
		wasBook, wasFruits := cases.CopyMarkBook(b), cases.CopyRows(fruits)
		for fruit := range fruits {
			for mark := range b.Values {
				ofFruits(b, fruits, asked{fruit: fruit, place: place(fruit, mark)})
				values, _ := marks.Values(b, fruits, place(fruit, mark))
				cases.Spoil(values)
			}
		}
		for one := range b.Sorts {
			twins, _ := marks.Twins(b, one)
			cases.Spoil(twins)
			for other := range b.Sorts {
				apart, _ := marks.Apart(b, one, other)
				cases.Spoil(apart)
			}
		}
		cases.Spoil(sortsLeft(t, b, fruits))
		if !reflect.DeepEqual(b, wasBook) || !reflect.DeepEqual(fruits, wasFruits) {
			t.Errorf("%v, %v came to be %v, %v", wasBook, wasFruits, b, fruits)
		}
	})
}

// R3: nil and empty lists are the same.
func TestNilAndEmpty(t *testing.T) {
	nils := api.MarkBook{Sorts: make([]api.MarkSort, 2)}
	empties := api.MarkBook{Values: []int{}, Firm: []int{}, Sorts: []api.MarkSort{{Can: [][]int{}}, {Can: [][]int{}}}}
	for name, x := range map[string]struct {
		b, other          api.MarkBook
		fruits, theOthers [][]int
	}{
		"no marks":  {nils, empties, [][]int{nil}, [][]int{{}}},
		"no fruits": {bookB(), bookB(), nil, [][]int{}},
		"no sorts":  {api.MarkBook{}, api.MarkBook{Sorts: []api.MarkSort{}}, nil, nil},
	} {
		for i, o := range append(ofFruits(x.b, x.fruits, asked{}), ofBook(x.b, asked{other: 1})...) {
			if other := append(ofFruits(x.other, x.theOthers, asked{}), ofBook(x.other, asked{other: 1})...)[i]; o != other {
				t.Errorf("%s: %v of nil; %v of empty", name, o, other)
			}
		}
	}
}

// P1 (DOC.md): every function terminates, and none panics, whatever its arguments are; R2 holds for them, too.
func TestAnyArguments(t *testing.T) {
	eachCase(func(d *cases.Dice, b api.MarkBook, fruits [][]int) {
		if d.Below(2) == 0 {
			b = d.SpoiltMarkBook(b)
		}
		if d.Below(2) == 0 {
			fruits = d.OddRows()
		}
		a := asked{d.Odd(), d.Odd(), d.Odd(), place(d.Odd(), d.Odd())}
		cases.ExpectNothingElse(t, append(ofFruits(b, fruits, a), ofBook(b, a)...), b, fruits, a)
	})
	long := make([]int, 1<<20)
	ofFruits(api.MarkBook{Values: long, Firm: long, Sorts: make([]api.MarkSort, 1<<20)}, [][]int{long}, asked{})
	ofFruits(bookB(), [][]int{long, long}, asked{})
	ofFruits(bookB(), make([][]int, 1<<20), asked{})
}
