package marks

import "pippin/api"

// within reports whether a number is one of so many things that are counted from 0.
func within(number, many int) bool {
	return 0 <= number && number < many
}

func isSort(b api.MarkBook, sort int) bool {
	return within(sort, len(b.Sorts))
}

func isPlace(b api.MarkBook, fruits [][]int, place api.MarkPlace) bool {
	return within(place.Fruit, len(fruits)) && within(place.Mark, len(b.Values))
}

func validBook(b api.MarkBook) bool {
	return validMarks(b) && validSorts(b) && 0 <= b.Wrong && b.Wrong <= api.MaxMarkWrong
}

func validMarks(b api.MarkBook) bool {
	if len(b.Values) > api.MaxMarks || len(b.Firm) != len(b.Values) {
		return false
	}
	for mark, many := range b.Values {
		if many < 1 || many > api.MaxMarkValues || !within(b.Firm[mark], 2) {
			return false
		}
	}
	return true
}

// validSorts takes it that the marks of the book are valid.
func validSorts(b api.MarkBook) bool {
	if len(b.Sorts) > api.MaxMarkSorts {
		return false
	}
	for _, sort := range b.Sorts {
		if len(sort.Can) != len(b.Values) {
			return false
		}
		for mark, can := range sort.Can {
			if !validCan(can, b.Values[mark]) {
				return false
			}
		}
	}
	return true
}

func validCan(can []int, many int) bool {
	last := -1
	for _, value := range can {
		if value <= last || value >= many {
			return false
		}
		last = value
	}
	return len(can) > 0
}

// validFruits takes it that the book is valid.
func validFruits(b api.MarkBook, fruits [][]int) bool {
	if len(fruits) > api.MaxMarkFruits {
		return false
	}
	for _, seen := range fruits {
		if len(seen) != len(b.Values) {
			return false
		}
		for mark, value := range seen {
			if value != api.MarkNot && !within(value, b.Values[mark]) {
				return false
			}
		}
	}
	return true
}
