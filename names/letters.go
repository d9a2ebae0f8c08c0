package names

import (
	"math/bits"
	"slices"

	"pippin/api"
)

// clashes reports whether the letters contradict one another: they do just if one says that two joined names are two.
func (o office) clashes() bool {
	return slices.ContainsFunc(o.Letters, func(l api.NameLetter) bool { return l.Same == 0 && o.one(l.A, l.B) })
}

// other returns the name with which a letter says that a name is one, if it says so of it.
func other(l api.NameLetter, name int) (int, bool) {
	switch {
	case l.Same == 1 && l.A == name:
		return l.B, true
	case l.Same == 1 && l.B == name:
		return l.A, true
	}
	return 0, false
}

// row returns the fewest letters that lead from a name to another one, and none if no letters do.
func (o office) row(from, to int) []int {
	var rows [api.MaxNames][]int
	// names are looked at in the order in which they are reached: the shorter rows first
	reached := []int{from}
	for at := 0; at < len(reached); at++ {
		name := reached[at]
		for number, l := range o.Letters {
			next, leads := other(l, name)
			if leads && !slices.Contains(reached, next) {
				rows[next] = append(slices.Clone(rows[name]), number)
				reached = append(reached, next)
			}
		}
	}
	return rows[to]
}

// proof returns the fewest letters that contradict one another, and none if none do: one that says that two names are two, and a row that says that they are one.
func (o office) proof() []int {
	var best []int
	for number, l := range o.Letters {
		if l.Same == 1 || !o.one(l.A, l.B) {
			continue
		}
		row := o.row(l.A, l.B)
		if len(best) == 0 || len(row)+1 < len(best) {
			best = append(row, number)
		}
	}
	slices.Sort(best)
	return best
}

// numbersOf returns the numbers in a set, which has a bit for each of them.
func numbersOf(set uint) []int {
	var numbers []int
	for number := range bits.Len(set) {
		if set>>number&1 == 1 {
			numbers = append(numbers, number)
		}
	}
	return numbers
}

// agree reports whether some letters of a book do not contradict one another.
func agree(b api.NameBook, numbers []int) bool {
	part := api.NameBook{Names: b.Names}
	for _, number := range numbers {
		part.Letters = append(part.Letters, b.Letters[number])
	}
	return !newOffice(part).clashes()
}

// keep returns the most letters that do not contradict one another.
func keep(b api.NameBook) []int {
	var best []int
	// the set of all letters comes first: if they agree, no others are tried
	for set := uint(1)<<len(b.Letters) - 1; set > 0; set-- {
		if bits.OnesCount(set) <= len(best) {
			continue
		}
		if numbers := numbersOf(set); agree(b, numbers) {
			best = numbers
		}
	}
	return best
}
