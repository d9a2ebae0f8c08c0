// Package marks is layer 1: see shared/doc/01-marks.md.
package marks

import (
	"slices"

	"pippin/api"
)

// Check returns the first error of a book and fruits.
func Check(b api.MarkBook, fruits [][]int) api.Errno {
	if !validBook(b) {
		return api.ErrMark
	}
	if !validFruits(b, fruits) {
		return api.ErrFruit
	}
	return api.OK
}

// Wrong returns how many values must be wrong if fruits are of a sort.
func Wrong(b api.MarkBook, fruits [][]int, sort int) (int, api.Errno) {
	if e := Check(b, fruits); e != api.OK {
		return 0, e
	}
	if !isSort(b, sort) {
		return 0, api.ErrArg
	}
	return box{b, fruits}.wrong(sort), api.OK
}

// Fewest returns the least such number of all sorts.
func Fewest(b api.MarkBook, fruits [][]int) (int, api.Errno) {
	if e := Check(b, fruits); e != api.OK {
		return 0, e
	}
	if len(b.Sorts) == 0 {
		return 0, api.ErrNone
	}
	return box{b, fruits}.fewest(), api.OK
}

// Sorts returns all sorts that fruits can be of.
func Sorts(b api.MarkBook, fruits [][]int) ([]int, api.Errno) {
	if e := Check(b, fruits); e != api.OK {
		return nil, e
	}
	sorts := box{b, fruits}.sorts()
	if len(sorts) == 0 {
		return nil, api.ErrNone
	}
	return sorts, api.OK
}

// Is returns whether fruits are of a sort.
func Is(b api.MarkBook, fruits [][]int, sort int) (int, api.Errno) {
	if e := Check(b, fruits); e != api.OK {
		return 0, e
	}
	if !isSort(b, sort) {
		return 0, api.ErrArg
	}
	sorts := box{b, fruits}.sorts()
	switch {
	case len(sorts) == 0:
		return 0, api.ErrNone
	case !slices.Contains(sorts, sort):
		return api.Never, api.OK
	case len(sorts) == 1:
		return api.Surely, api.OK
	}
	return api.Perhaps, api.OK
}

// Values returns the values that a mark of a fruit can really have.
func Values(b api.MarkBook, fruits [][]int, place api.MarkPlace) ([]int, api.Errno) {
	if e := Check(b, fruits); e != api.OK {
		return nil, e
	}
	if !isPlace(b, fruits, place) {
		return nil, api.ErrArg
	}
	values := box{b, fruits}.values(place)
	if len(values) == 0 {
		return nil, api.ErrNone
	}
	return values, api.OK
}

// Mistakes returns all values that surely are wrong.
func Mistakes(b api.MarkBook, fruits [][]int) ([]api.MarkPlace, api.Errno) {
	if e := Check(b, fruits); e != api.OK {
		return nil, e
	}
	x := box{b, fruits}
	if len(x.sorts()) == 0 {
		return nil, api.ErrNone
	}
	return x.mistakes(), api.OK
}

// After returns how many sorts there still are at the most if a mark is looked at.
func After(b api.MarkBook, fruits [][]int, place api.MarkPlace) (int, api.Errno) {
	if e := Check(b, fruits); e != api.OK {
		return 0, e
	}
	if !isPlace(b, fruits, place) || fruits[place.Fruit][place.Mark] != api.MarkNot {
		return 0, api.ErrArg
	}
	x := box{b, fruits}
	if len(x.sorts()) == 0 {
		return 0, api.ErrNone
	}
	return x.after(place), api.OK
}

// Next returns the mark that should be looked at.
func Next(b api.MarkBook, fruits [][]int, fruit int) (int, api.Errno) {
	if e := Check(b, fruits); e != api.OK {
		return 0, e
	}
	if !within(fruit, len(fruits)) {
		return 0, api.ErrArg
	}
	x := box{b, fruits}
	if len(x.sorts()) < 2 {
		return 0, api.ErrNone
	}
	mark, found := x.next(fruit)
	if !found {
		return 0, api.ErrNone
	}
	return mark, api.OK
}

// Apart returns the marks that tell two sorts apart.
func Apart(b api.MarkBook, one, other int) ([]int, api.Errno) {
	if !validBook(b) {
		return nil, api.ErrMark
	}
	if !isSort(b, one) || !isSort(b, other) {
		return nil, api.ErrArg
	}
	return apart(b, one, other), api.OK
}

// Twins returns the sorts that no mark tells apart from a sort.
func Twins(b api.MarkBook, sort int) ([]int, api.Errno) {
	if !validBook(b) {
		return nil, api.ErrMark
	}
	if !isSort(b, sort) {
		return nil, api.ErrArg
	}
	var twins []int
	for other := range b.Sorts {
		if other != sort && len(apart(b, sort, other)) == 0 {
			twins = append(twins, other)
		}
	}
	return twins, api.OK
}
