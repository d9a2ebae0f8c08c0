package boxes_test

import (
	"slices"
	"testing"

	"pippin/api"
	"pippin/boxes"
	"pippin/cases"
)

// truth is one way in which all can have been: the parting, the sort of each tree, and how many values are wrong.
type truth struct {
	parting, sorts []int
	wrong          int
}

// isParting reports whether the numbers of trees are a parting of a box, as the chapter says.
func isParting(x api.Box, numbers []int) bool {
	for fruit, number := range numbers {
		before := numbers[:fruit]
		if !slices.Contains(before, number) && number != treesOf(before) {
			return false
		}
	}
	for _, pair := range x.Tied {
		if numbers[pair.A] != numbers[pair.B] {
			return false
		}
	}
	return treesOf(numbers) <= x.Trees
}

// treesOf counts the trees of numbers that begin as a parting.
func treesOf(numbers []int) int {
	many := 0
	for slices.Contains(numbers, many) {
		many++
	}
	return many
}

// allPartings writes down each parting, ascending.
func allPartings(x api.Box) [][]int {
	numbers := slices.Repeat(list(len(x.Fruits)), len(x.Fruits))
	return slices.DeleteFunc(cases.AllBelow(numbers), func(numbers []int) bool { return !isParting(x, numbers) })
}

// treeTruths are those of layer 1 of the fruits of one tree; of all that have one sort and as many wrong values there is one.
func treeTruths(x api.Box, parting []int, tree int) []cases.MarkTruth {
	var fruits [][]int
	for fruit, number := range parting {
		if number == tree {
			fruits = append(fruits, x.Fruits[fruit])
		}
	}
	var found []cases.MarkTruth
	for _, one := range cases.AllMarkTruths(x.Book, fruits) {
		same := func(other cases.MarkTruth) bool { return other.Sort == one.Sort && other.Wrong == one.Wrong }
		if !slices.ContainsFunc(found, same) {
			found = append(found, one)
		}
	}
	return found
}

// allTruths writes down each truth, as the chapter defines it, by the partings, whatever the Wrong of the book is.
func allTruths(x api.Box) []truth {
	var all []truth
	for _, parting := range allPartings(x) {
		found := []truth{{parting: parting}}
		for tree := range treesOf(parting) {
			var longer []truth
			for _, one := range found {
				for _, of := range treeTruths(x, parting, tree) {
					longer = append(longer, truth{parting, append(slices.Clone(one.sorts), of.Sort), one.wrong + of.Wrong})
				}
			}
			found = longer
		}
		all = append(all, found...)
	}
	return all
}

// truths are those in which no more values are wrong than can be.
func truths(x api.Box) []truth {
	return slices.DeleteFunc(allTruths(x), func(one truth) bool { return one.wrong > x.Book.Wrong })
}

// partingsOf returns those of truths, ascending.
func partingsOf(all []truth) [][]int {
	var partings [][]int
	for _, one := range all {
		partings = append(partings, one.parting)
	}
	return slices.CompactFunc(partings, slices.Equal)
}

// once returns numbers, each of them once, ascending.
func once(numbers []int) []int {
	return slices.Compact(slices.Sorted(slices.Values(numbers)))
}

// eachBox calls a test with many small boxes, all of them valid, with none, one or several of everything.
func eachBox(test func(d *cases.Dice, x api.Box)) {
	d := cases.Dice(3)
	for range 1000 {
		test(&d, d.Box())
	}
}

// P3.2 to P3.9: what all truths say, written down one by one.
func TestAgainstAllTruths(t *testing.T) {
	eachBox(func(_ *cases.Dice, x api.Box) {
		compareBest(t, x, allTruths(x))
		all, none := truths(x), api.OK
		if len(all) == 0 {
			none = api.ErrNone
		}
		want := partingsOf(all)
		if partings, e := boxes.Partings(x); !slices.EqualFunc(partings, want, slices.Equal) || e != none {
			t.Errorf("Partings of %v = %v, %d; want %v", x, partings, e, want)
		}
		if many, e := boxes.Many(x); many != len(want) || e != none {
			t.Errorf("Many of %v = %d, %d; want %d", x, many, e, len(want))
		}
		compareLeast(t, x, all, none)
		compareSorts(t, x, all, none)
		compareTogether(t, x, want, none)
		compareAsk(t, x, want)
	})
}

func compareBest(t *testing.T, x api.Box, all []truth) {
	t.Helper()
	want := truth{}
	none := api.OK
	if len(all) == 0 {
		none = api.ErrNone
	} else {
		want = slices.MinFunc(all, func(one, other truth) int {
			order := list(one.wrong, treesOf(one.parting))
			if n := slices.Compare(order, list(other.wrong, treesOf(other.parting))); n != 0 {
				return n
			}
			return slices.Compare(one.parting, other.parting)
		})
	}
	if n, e := boxes.Fewest(x); n != want.wrong || e != none {
		t.Errorf("Fewest of %v = %d, %d; want %d", x, n, e, want.wrong)
	}
	if parting, e := boxes.Best(x); !slices.Equal(parting, want.parting) || e != none {
		t.Errorf("Best of %v = %v, %d; want %v", x, parting, e, want.parting)
	}
}

func compareLeast(t *testing.T, x api.Box, all []truth, none api.Errno) {
	t.Helper()
	var trees, kinds []int
	for _, one := range all {
		trees, kinds = append(trees, treesOf(one.parting)), append(kinds, len(once(one.sorts)))
	}
	if none != api.OK {
		trees, kinds = list(0), list(0)
	}
	if n, e := boxes.Trees(x); n != slices.Min(trees) || e != none {
		t.Errorf("Trees of %v = %d, %d; want %d", x, n, e, slices.Min(trees))
	}
	if n, e := boxes.Kinds(x); n != slices.Min(kinds) || e != none {
		t.Errorf("Kinds of %v = %d, %d; want %d", x, n, e, slices.Min(kinds))
	}
}

func compareSorts(t *testing.T, x api.Box, all []truth, none api.Errno) {
	t.Helper()
	for fruit := range x.Fruits {
		var want []int
		for _, one := range all {
			want = append(want, one.sorts[one.parting[fruit]])
		}
		if sorts, e := boxes.Sorts(x, fruit); !slices.Equal(sorts, once(want)) || e != none {
			t.Errorf("Sorts of %v, %d = %v, %d; want %v", x, fruit, sorts, e, once(want))
		}
	}
	var want []int
	for sort := range x.Book.Sorts {
		without := func(one truth) bool { return !slices.Contains(one.sorts, sort) }
		if len(all) > 0 && !slices.ContainsFunc(all, without) {
			want = append(want, sort)
		}
	}
	if sure, e := boxes.Sure(x); !slices.Equal(sure, want) || e != none {
		t.Errorf("Sure of %v = %v, %d; want %v", x, sure, e, want)
	}
}

// split returns the partings in which two fruits are of one tree, and the others.
func split(partings [][]int, one, other int) (as, apart [][]int) {
	for _, parting := range partings {
		if parting[one] == parting[other] {
			as = append(as, parting)
		} else {
			apart = append(apart, parting)
		}
	}
	return as, apart
}

func compareTogether(t *testing.T, x api.Box, partings [][]int, none api.Errno) {
	t.Helper()
	for one := range x.Fruits {
		for other := range x.Fruits {
			as, apart := split(partings, one, other)
			want := api.Perhaps
			switch {
			case len(partings) == 0:
				want = 0
			case len(apart) == 0:
				want = api.Surely
			case len(as) == 0:
				want = api.Never
			}
			if n, e := boxes.Together(x, one, other); n != want || e != none {
				t.Errorf("Together of %v, %d, %d = %d, %d; want %d", x, one, other, n, e, want)
			}
		}
	}
}

// P3.10
func compareAsk(t *testing.T, x api.Box, partings [][]int) {
	t.Helper()
	if len(partings) < 2 {
		cases.ExpectError(t, "not two partings", calls(x, asked{}), api.ErrNone, "Ask")
		return
	}
	var want api.BoxPair
	least := len(partings) + 1
	for one := range x.Fruits {
		for other := one + 1; other < len(x.Fruits); other++ {
			as, apart := split(partings, one, other)
			if left := max(len(as), len(apart)); left < least {
				want, least = pair(one, other), left
			}
		}
	}
	if ask, e := boxes.Ask(x); ask != want || e != api.OK {
		t.Errorf("Ask of %v = %v, %d; want %v", x, ask, e, want)
	}
}
