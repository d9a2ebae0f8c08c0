package marks

import (
	"iter"
	"slices"

	"pippin/api"
)

// box is a book at work, with the fruits of one tree that it tells; both are valid.
type box struct {
	api.MarkBook
	fruits [][]int
}

// looked yields the fruits of which a mark was looked at, each with the value that was seen.
func (x box) looked(mark int) iter.Seq2[int, int] {
	return func(yield func(fruit, seen int) bool) {
		for fruit, values := range x.fruits {
			if values[mark] != api.MarkNot && !yield(fruit, values[mark]) {
				return
			}
		}
	}
}

// misses counts the values seen of a mark that are not right.
func (x box) misses(mark int, right func(fruit, seen int) bool) int {
	many := 0
	for fruit, seen := range x.looked(mark) {
		if !right(fruit, seen) {
			many++
		}
	}
	return many
}

// missesWith returns the least number of wrong values of a mark, in a sort, if the real value of one fruit is given. A firm mark has it in all fruits; of another mark each fruit has whatever suits it best.
func (x box) missesWith(sort int, place api.MarkPlace, value int) int {
	can := x.Sorts[sort].Can[place.Mark]
	firm := x.Firm[place.Mark] == 1
	return x.misses(place.Mark, func(fruit, seen int) bool {
		if firm || fruit == place.Fruit {
			return seen == value
		}
		return slices.Contains(can, seen)
	})
}

// leastMisses returns the least number of wrong values of a mark, in a sort. It tries all real values of the first fruit: if the mark is firm they are those of all, and if not, the best of them is as good as any.
func (x box) leastMisses(sort, mark int) int {
	least := len(x.fruits)
	for _, value := range x.Sorts[sort].Can[mark] {
		least = min(least, x.missesWith(sort, api.MarkPlace{Fruit: 0, Mark: mark}, value))
	}
	return least
}

// wrong adds the marks up: the real values of one do not bind those of another.
func (x box) wrong(sort int) int {
	sum := 0
	for mark := range x.Values {
		sum += x.leastMisses(sort, mark)
	}
	return sum
}

// fewest takes it that there is a sort.
func (x box) fewest() int {
	least := x.wrong(0)
	for sort := range x.Sorts {
		least = min(least, x.wrong(sort))
	}
	return least
}

// sorts returns the sorts of all truths.
func (x box) sorts() []int {
	var found []int
	for sort := range x.Sorts {
		if x.wrong(sort) <= x.Wrong {
			found = append(found, sort)
		}
	}
	return found
}

// explains reports whether there is a truth of a sort in which a value is real.
func (x box) explains(sort int, place api.MarkPlace, value int) bool {
	if !slices.Contains(x.Sorts[sort].Can[place.Mark], value) {
		return false
	}
	others := x.wrong(sort) - x.leastMisses(sort, place.Mark)
	return others+x.missesWith(sort, place, value) <= x.Wrong
}

// values returns the real values of a place in all truths.
func (x box) values(place api.MarkPlace) []int {
	var found []int
	for value := range x.Values[place.Mark] {
		for sort := range x.Sorts {
			if x.explains(sort, place, value) {
				found = append(found, value)
				break
			}
		}
	}
	return found
}

// mistakes returns the places whose values are real in no truth.
func (x box) mistakes() []api.MarkPlace {
	var found []api.MarkPlace
	for fruit, values := range x.fruits {
	seen:
		for mark, value := range values {
			if value == api.MarkNot {
				continue
			}
			place := api.MarkPlace{Fruit: fruit, Mark: mark}
			for sort := range x.Sorts {
				if x.explains(sort, place, value) {
					continue seen
				}
			}
			found = append(found, place)
		}
	}
	return found
}

// with returns the box in which one more value was seen. It copies what it changes, because the fruits are the caller's.
func (x box) with(place api.MarkPlace, value int) box {
	seen := slices.Clone(x.fruits[place.Fruit])
	seen[place.Mark] = value
	x.fruits = slices.Clone(x.fruits)
	x.fruits[place.Fruit] = seen
	return x
}

// after returns how many sorts are left at the most, whatever is seen at a place.
func (x box) after(place api.MarkPlace) int {
	most := 0
	for value := range x.Values[place.Mark] {
		most = max(most, len(x.with(place, value).sorts()))
	}
	return most
}

// next returns the first mark of a fruit with the least after, if any was not looked at.
func (x box) next(fruit int) (mark int, found bool) {
	least := 0
	for other, seen := range x.fruits[fruit] {
		if seen != api.MarkNot {
			continue
		}
		after := x.after(api.MarkPlace{Fruit: fruit, Mark: other})
		if !found || after < least {
			mark, least, found = other, after, true
		}
	}
	return mark, found
}

// apart returns the marks of which two sorts of a book can have no value in common.
func apart(b api.MarkBook, one, other int) []int {
	var marks []int
	for mark := range b.Values {
		can := b.Sorts[other].Can[mark]
		common := func(value int) bool { return slices.Contains(can, value) }
		if !slices.ContainsFunc(b.Sorts[one].Can[mark], common) {
			marks = append(marks, mark)
		}
	}
	return marks
}
