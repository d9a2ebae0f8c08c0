package cases

import (
	"slices"

	"pippin/api"
)

// MarkBookB is the book B of the examples of layer 1, with so many wrong values.
func MarkBookB(wrong int) api.MarkBook {
	return api.MarkBook{
		Values: []int{2, 3, 3},
		Firm:   []int{0, 1, 0},
		Sorts: []api.MarkSort{
			{Can: [][]int{{0}, {0, 1}, {0}}},
			{Can: [][]int{{0, 1}, {1}, {1, 2}}},
			{Can: [][]int{{1}, {2}, {0, 1}}},
		},
		Wrong: wrong,
	}
}

// MarkBook returns a small book that is valid, with fewer marks and sorts than given.
func (d *Dice) MarkBook(marks, sorts int) api.MarkBook {
	b := api.MarkBook{Wrong: d.Below(4)}
	for range d.Below(marks) {
		b.Values, b.Firm = append(b.Values, 1+d.Below(3)), append(b.Firm, d.Below(2))
	}
	for range d.Below(sorts) {
		sort := api.MarkSort{}
		for _, values := range b.Values {
			sort.Can = append(sort.Can, d.some(values))
		}
		b.Sorts = append(b.Sorts, sort)
	}
	return b
}

// PlainMarkBook returns a book of sorts each of whose marks has one value alone, with nothing written wrongly.
func (d *Dice) PlainMarkBook(values []int, sorts [][]int) api.MarkBook {
	b := api.MarkBook{Values: slices.Clone(values)}
	for range values {
		b.Firm = append(b.Firm, d.Below(2))
	}
	for _, values := range sorts {
		var sort api.MarkSort
		for _, value := range values {
			sort.Can = append(sort.Can, []int{value})
		}
		b.Sorts = append(b.Sorts, sort)
	}
	return b
}

// some returns a strictly ascending list of at least one value.
func (d *Dice) some(values int) []int {
	sure := d.Below(values)
	var found []int
	for value := range values {
		if value == sure || d.Below(3) == 0 {
			found = append(found, value)
		}
	}
	return found
}

// Fruit returns a fruit of which each mark was looked at in so many of four cases.
func (d *Dice) Fruit(b api.MarkBook, inFour int) []int {
	var seen []int
	for _, values := range b.Values {
		if d.Below(4) < inFour {
			seen = append(seen, d.Below(values))
		} else {
			seen = append(seen, api.MarkNot)
		}
	}
	return seen
}

// SpoiltMarkBook returns a book of which one thing, or all, is as it comes.
func (d *Dice) SpoiltMarkBook(b api.MarkBook) api.MarkBook {
	what := d.Below(6)
	if what == 0 || what == 5 {
		b.Values = d.Odds()
	}
	if what == 1 || what == 5 {
		b.Firm = d.Odds()
	}
	if what == 2 || what == 5 {
		b.Wrong = d.Odd()
	}
	if what == 3 || what == 5 {
		b.Sorts = make([]api.MarkSort, d.Below(11))
		for sort := range b.Sorts {
			b.Sorts[sort].Can = d.OddRows()
		}
	}
	return b
}

// CopyMarkBook returns a book that shares no memory with the given one.
func CopyMarkBook(b api.MarkBook) api.MarkBook {
	b.Values, b.Firm, b.Sorts = slices.Clone(b.Values), slices.Clone(b.Firm), slices.Clone(b.Sorts)
	for sort := range b.Sorts {
		b.Sorts[sort].Can = CopyRows(b.Sorts[sort].Can)
	}
	return b
}

// MarkTruth is one way in which the fruits of a tree can have been: the sort, the real values of each fruit, and how many that were seen are wrong.
type MarkTruth struct {
	Sort  int
	Real  [][]int
	Wrong int
}

// AllMarkTruths writes down each truth one by one, as the chapter of layer 1 defines it, whatever the Wrong of the book is.
func AllMarkTruths(b api.MarkBook, fruits [][]int) []MarkTruth {
	var found []MarkTruth
	for sort, s := range b.Sorts {
		real := make([][]int, len(fruits))
		for fruit := range real {
			real[fruit] = make([]int, len(b.Values))
		}
		var fill func(at, wrong int)
		fill = func(at, wrong int) {
			if at == len(fruits)*len(b.Values) {
				found = append(found, MarkTruth{sort, CopyRows(real), wrong})
				return
			}
			fruit, mark := at/len(b.Values), at%len(b.Values)
			for _, value := range s.Can[mark] {
				if b.Firm[mark] == 1 && fruit > 0 && real[0][mark] != value {
					continue
				}
				real[fruit][mark] = value
				more := 0
				if seen := fruits[fruit][mark]; seen != api.MarkNot && seen != value {
					more = 1
				}
				fill(at+1, wrong+more)
			}
		}
		fill(0, 0)
	}
	return found
}
