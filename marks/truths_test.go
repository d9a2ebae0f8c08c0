package marks_test

import (
	"slices"
	"testing"

	"pippin/api"
	"pippin/cases"
	"pippin/marks"
)

// truth is one way in which all can have been: the sort, the real values of each fruit, and how many that were seen are wrong.
type truth struct {
	sort  int
	real  [][]int
	wrong int
}

// allTruths writes down each truth one by one, as the chapter defines it, whatever the Wrong of the book is.
func allTruths(b api.MarkBook, fruits [][]int) []truth {
	var found []truth
	for sort, s := range b.Sorts {
		real := make([][]int, len(fruits))
		for fruit := range real {
			real[fruit] = make([]int, len(b.Values))
		}
		var fill func(at, wrong int)
		fill = func(at, wrong int) {
			if at == len(fruits)*len(b.Values) {
				found = append(found, truth{sort, cases.CopyRows(real), wrong})
				return
			}
			fruit, mark := at/len(b.Values), at%len(b.Values)
			for _, value := range s.Can[mark] {
				if b.Firm[mark] == 1 && fruit > 0 && real[0][mark] != value {
					continue
				}
				real[fruit][mark] = value
				more := 0
				if seen := fruits[fruit][mark]; seen != not && seen != value {
					more = 1
				}
				fill(at+1, wrong+more)
			}
		}
		fill(0, 0)
	}
	return found
}

// truths are those in which no more values are wrong than can be.
func truths(b api.MarkBook, fruits [][]int) []truth {
	return slices.DeleteFunc(allTruths(b, fruits), func(x truth) bool { return x.wrong > b.Wrong })
}

func sortsOf(all []truth) []int {
	var sorts []int
	for _, x := range all {
		sorts = append(sorts, x.sort)
	}
	slices.Sort(sorts)
	return slices.Compact(sorts)
}

func copyBook(b api.MarkBook) api.MarkBook {
	b.Values, b.Firm, b.Sorts = slices.Clone(b.Values), slices.Clone(b.Firm), slices.Clone(b.Sorts)
	for sort := range b.Sorts {
		b.Sorts[sort].Can = cases.CopyRows(b.Sorts[sort].Can)
	}
	return b
}

// dice throw what layer 1 is about.
type dice struct{ cases.Dice }

// some returns a strictly ascending list of at least one value.
func (d *dice) some(values int) []int {
	sure := d.Below(values)
	var found []int
	for value := range values {
		if value == sure || d.Below(3) == 0 {
			found = append(found, value)
		}
	}
	return found
}

// fruit returns a fruit of which each mark was looked at in so many of four cases.
func (d *dice) fruit(b api.MarkBook, inFour int) []int {
	var seen []int
	for _, values := range b.Values {
		if d.Below(4) < inFour {
			seen = append(seen, d.Below(values))
		} else {
			seen = append(seen, not)
		}
	}
	return seen
}

// eachCase calls a test with many small cases, all of them valid, with none, one or several of everything.
func eachCase(test func(d *dice, b api.MarkBook, fruits [][]int)) {
	d := dice{1}
	for range 1500 {
		b := api.MarkBook{Wrong: d.Below(4)}
		for range d.Below(4) {
			b.Values, b.Firm = append(b.Values, 1+d.Below(3)), append(b.Firm, d.Below(2))
		}
		for range d.Below(5) {
			sort := api.MarkSort{}
			for _, values := range b.Values {
				sort.Can = append(sort.Can, d.some(values))
			}
			b.Sorts = append(b.Sorts, sort)
		}
		var fruits [][]int
		for range d.Below(4) {
			fruits = append(fruits, d.fruit(b, 3))
		}
		test(&d, b, fruits)
	}
}

// P1.2 to P1.7: what all truths say, written down one by one.
func TestAgainstAllTruths(t *testing.T) {
	eachCase(func(_ *dice, b api.MarkBook, fruits [][]int) {
		all, can := allTruths(b, fruits), truths(b, fruits)
		compareWrong(t, b, fruits, all)
		want, none := sortsOf(can), api.OK
		if len(can) == 0 {
			none = api.ErrNone
		}
		if sorts, e := marks.Sorts(b, fruits); !slices.Equal(sorts, want) || e != none {
			t.Errorf("Sorts of %v, %v = %v, %d; want %v", b, fruits, sorts, e, want)
		}
		for sort := range b.Sorts {
			known := api.Perhaps
			switch {
			case len(can) == 0:
				known = 0
			case !slices.Contains(want, sort):
				known = api.Never
			case len(want) == 1:
				known = api.Surely
			}
			if n, e := marks.Is(b, fruits, sort); n != known || e != none {
				t.Errorf("Is of %v, %v, %d = %d, %d; want %d", b, fruits, sort, n, e, known)
			}
		}
		compareValues(t, b, fruits, can, none)
	})
}

func compareWrong(t *testing.T, b api.MarkBook, fruits [][]int, all []truth) {
	t.Helper()
	fewest := api.MaxMarks * api.MaxMarkFruits
	for sort := range b.Sorts {
		least := api.MaxMarks * api.MaxMarkFruits
		for _, x := range all {
			if x.sort == sort {
				least = min(least, x.wrong)
			}
		}
		fewest = min(fewest, least)
		if n, e := marks.Wrong(b, fruits, sort); n != least || e != api.OK {
			t.Errorf("Wrong of %v, %v, %d = %d, %d; want %d", b, fruits, sort, n, e, least)
		}
	}
	if n, e := marks.Fewest(b, fruits); len(b.Sorts) > 0 && (n != fewest || e != api.OK) || len(b.Sorts) == 0 && (n != 0 || e != api.ErrNone) {
		t.Errorf("Fewest of %v, %v = %d, %d; want %d", b, fruits, n, e, fewest)
	}
}

func compareValues(t *testing.T, b api.MarkBook, fruits [][]int, can []truth, none api.Errno) {
	t.Helper()
	var wrong []api.MarkPlace
	for fruit, seen := range fruits {
		for mark := range b.Values {
			var want []int
			for _, x := range can {
				want = append(want, x.real[fruit][mark])
			}
			slices.Sort(want)
			want = slices.Compact(want)
			if values, e := marks.Values(b, fruits, place(fruit, mark)); !slices.Equal(values, want) || e != none {
				t.Errorf("Values of %v, %v, %d %d = %v, %d; want %v", b, fruits, fruit, mark, values, e, want)
			}
			if seen[mark] != not && len(can) > 0 && !slices.Contains(want, seen[mark]) {
				wrong = append(wrong, place(fruit, mark))
			}
		}
	}
	if found, e := marks.Mistakes(b, fruits); !slices.Equal(found, wrong) || e != none {
		t.Errorf("Mistakes of %v, %v = %v, %d; want %v", b, fruits, found, e, wrong)
	}
}

// P1.8, P1.9: each value of a mark is tried.
func TestAfterAgainstAllTruths(t *testing.T) {
	eachCase(func(_ *dice, b api.MarkBook, fruits [][]int) {
		left := len(sortsOf(truths(b, fruits)))
		for fruit, seen := range fruits {
			best, least := not, 0
			for mark, values := range b.Values {
				most, want := 0, api.ErrArg
				if seen[mark] == not {
					want = api.ErrNone
				}
				if seen[mark] == not && left > 0 {
					want = api.OK
					for value := range values {
						most = max(most, len(sortsOf(truths(b, seeing(fruits, fruit, mark, value)))))
					}
					if best == not || most < least {
						best, least = mark, most
					}
				}
				if n, e := marks.After(b, fruits, place(fruit, mark)); n != most || e != want {
					t.Errorf("After of %v, %v, %d %d = %d, %d; want %d, %d", b, fruits, fruit, mark, n, e, most, want)
				}
			}
			next, e := marks.Next(b, fruits, fruit)
			if best == not || left < 2 {
				if next != 0 || e != api.ErrNone {
					t.Errorf("Next of %v, %v, %d = %d, %d; want ErrNone", b, fruits, fruit, next, e)
				}
			} else if next != best || e != api.OK {
				t.Errorf("Next of %v, %v, %d = %d, %d; want %d", b, fruits, fruit, next, e, best)
			}
		}
	})
}

// seeing returns the fruits with one more value.
func seeing(fruits [][]int, fruit, mark, value int) [][]int {
	more := cases.CopyRows(fruits)
	more[fruit][mark] = value
	return more
}
