package gardens_test

import (
	"slices"
	"testing"

	"pippin/api"
	"pippin/cases"
	"pippin/gardens"
)

// isTaken says whether a loss takes a sort, as the chapter defines it.
func isTaken(b api.GardenBook, loss []int, sort int) bool {
	for garden := range b.Costs {
		if slices.Contains(b.Trees, tree(sort, garden)) && !slices.Contains(loss, garden) {
			return false
		}
	}
	return true
}

func isSafe(b api.GardenBook, sort int) bool {
	for _, loss := range b.Losses {
		if isTaken(b, loss, sort) {
			return false
		}
	}
	return true
}

// sortsOf returns all sorts of which something is so.
func sortsOf(b api.GardenBook, is func(sort int) bool) []int {
	var sorts []int
	for sort := range b.Sorts {
		if is(sort) {
			sorts = append(sorts, sort)
		}
	}
	return sorts
}

func safeOf(b api.GardenBook) []int {
	return sortsOf(b, func(sort int) bool { return isSafe(b, sort) })
}

// burnt returns a book without the trees of some gardens.
func burnt(b api.GardenBook, gardens []int) api.GardenBook {
	return with(b, func(b *api.GardenBook) {
		b.Trees = slices.DeleteFunc(b.Trees, func(t api.GardenTree) bool { return slices.Contains(gardens, t.Garden) })
	})
}

// planted returns a book with more trees of a sort.
func planted(b api.GardenBook, sort int, gardens []int) api.GardenBook {
	return with(b, func(b *api.GardenBook) {
		for _, garden := range gardens {
			// they come behind all trees of earlier sorts, and of earlier gardens
			at := 0
			for at < len(b.Trees) && (b.Trees[at].Sort < sort || b.Trees[at].Sort == sort && b.Trees[at].Garden < garden) {
				at++
			}
			b.Trees = slices.Insert(b.Trees, at, tree(sort, garden))
		}
	})
}

// hasTree says whether a book has a tree of a sort.
func hasTree(b api.GardenBook, sort int) bool {
	return slices.ContainsFunc(b.Trees, func(t api.GardenTree) bool { return t.Sort == sort })
}

// areGrafts says whether all trees of a sort in some gardens are grafts.
func areGrafts(b api.GardenBook, sort int, gardens []int) bool {
	for _, garden := range gardens {
		if !hasTree(b, sort) || slices.Contains(b.Trees, tree(sort, garden)) {
			return false
		}
	}
	return true
}

// plansOf writes down the gardens of all grafts with which a sort is safe and that cost the least, and what they cost: below 0 if there are none.
func plansOf(b api.GardenBook, sort int) (plans [][]int, cost int) {
	cost = -1
	for _, in := range cases.Sets(len(b.Costs)) {
		if !areGrafts(b, sort, in) || !isSafe(planted(b, sort, in), sort) {
			continue
		}
		price := priceOf(b, in)
		if cost < 0 || price < cost {
			plans, cost = nil, price
		}
		if price == cost {
			plans = append(plans, in)
		}
	}
	return plans, cost
}

// savesOf looks for the sorts that can be safe among all lists of sorts.
func savesOf(costs []int, money int) []int {
	var best []int
	for _, sorts := range cases.Sets(len(costs)) {
		all := cases.Pick(costs, sorts)
		if slices.Contains(all, -1) || cases.Sum(all) > money {
			continue
		}
		if len(sorts) > len(best) || len(sorts) == len(best) && slices.Compare(sorts, best) < 0 {
			best = sorts
		}
	}
	return best
}

// nextOf writes down all grafts, and what P10.10 compares: how many sorts losses take then, the cost, the sort, the garden. It returns the least one; nil if there are none.
func nextOf(b api.GardenBook) []int {
	var all [][]int
	for sort := range b.Sorts {
		for garden, cost := range b.Costs {
			if areGrafts(b, sort, list(garden)) {
				all = append(all, list(takenOf(planted(b, sort, list(garden))), cost, sort, garden))
			}
		}
	}
	if len(all) == 0 {
		return nil
	}
	return slices.MinFunc(all, slices.Compare[[]int])
}

// takenOf returns the sum, over all losses, of how many sorts they take.
func takenOf(b api.GardenBook) int {
	taken := 0
	for _, loss := range b.Losses {
		taken += len(sortsOf(b, func(sort int) bool { return isTaken(b, loss, sort) }))
	}
	return taken
}

// weakOf returns the gardens that have the only tree of some sort.
func weakOf(b api.GardenBook) []int {
	var weak []int
	for garden := range b.Costs {
		left := burnt(b, list(garden))
		if len(sortsOf(b, func(sort int) bool { return hasTree(b, sort) && !hasTree(left, sort) })) > 0 {
			weak = append(weak, garden)
		}
	}
	return weak
}

// eachSmall calls a test with all books of up to two sorts, three gardens and two losses; what grafts cost is thrown.
func eachSmall(test func(d *cases.Dice, b api.GardenBook)) {
	d := cases.Dice(100)
	for sorts := range 3 {
		for many := range 4 {
			for losses := range 3 {
				eachOfSize(&d, sorts, many, losses, test)
			}
		}
	}
}

// eachOfSize calls a test with all books of a size.
func eachOfSize(d *cases.Dice, sorts, many, losses int, test func(d *cases.Dice, b api.GardenBook)) {
	// the first of all sets of gardens is empty
	some := cases.Sets(many)[1:]
	for _, places := range cases.Sets(sorts * many) {
		for _, numbers := range cases.AllBelow(slices.Repeat(list(len(some)), losses)) {
			b := d.GardenBook(sorts, many, 0)
			b.Trees, b.Losses = nil, cases.Pick(some, numbers)
			for _, place := range places {
				b.Trees = append(b.Trees, tree(place/many, place%many))
			}
			test(d, b)
		}
	}
}

// eachBook calls a test with books of any size, and with those of the examples.
func eachBook(test func(d *cases.Dice, b api.GardenBook)) {
	d := cases.Dice(10)
	for _, b := range []api.GardenBook{{}, bookG(), moreG(), gone(), calm(), pair(), dear(), three(), even(), mixed(), four(), full()} {
		test(&d, b)
	}
	for range 400 {
		test(&d, d.GardenBook(d.Below(api.MaxGardenSorts+1), d.Below(api.MaxGardens+1), d.Below(api.MaxGardenLosses+1)))
	}
	for range 50 {
		test(&d, d.GardenBook(api.MaxGardenSorts, api.MaxGardens, d.Below(api.MaxGardenLosses+1)))
	}
}

// throwLosses returns a list of losses of a book, as many as there can be at the most.
func throwLosses(d *cases.Dice, b api.GardenBook) []int {
	var losses []int
	if len(b.Losses) > 0 {
		for range d.Below(api.MaxGardenLosses + 1) {
			losses = append(losses, d.Below(len(b.Losses)))
		}
	}
	return losses
}

// P10.2 to P10.12: what the chapter says, written down.
func TestAgainstTheChapter(t *testing.T) {
	seen := map[string]int{}
	test := func(d *cases.Dice, b api.GardenBook) {
		expectLosses(t, b)
		expectLeft(t, b, throwLosses(d, b), seen)
		costs := expectCosts(t, b, seen)
		for range 4 {
			expectSaves(t, b, costs, throwMoney(d, costs), seen)
		}
		graft, e := gardens.Next(b)
		if want := nextOf(b); want == nil {
			seen["no graft"]++
			cases.ExpectError(t, "no graft", calls(b, asked{}), api.ErrNone, "Next")
		} else if graft != tree(want[2], want[3]) || e != api.OK {
			t.Errorf("Next of %v = %v, %d; want %v", b, graft, e, want[2:])
		}
	}
	eachSmall(test)
	eachBook(test)
	// a test that saw few of one kind would say little
	for _, what := range []string{"a sort gone", "no sort gone", "safe", "one graft", "several grafts", "no grafts", "all saved", "some saved", "none saved", "no graft"} {
		if seen[what] < 50 {
			t.Errorf("%s: seen %d times", what, seen[what])
		}
	}
}

// expectLosses checks Takes, Safe, Weak and Need.
func expectLosses(t *testing.T, b api.GardenBook) {
	t.Helper()
	for number, loss := range b.Losses {
		want := sortsOf(b, func(sort int) bool { return isTaken(b, loss, sort) })
		if sorts, e := gardens.Takes(b, number); !slices.Equal(sorts, want) || e != api.OK {
			t.Errorf("Takes of %v, %d = %v, %d; want %v", b, number, sorts, e, want)
		}
	}
	want := safeOf(b)
	if safe, e := gardens.Safe(b); !slices.Equal(safe, want) || e != api.OK {
		t.Errorf("Safe of %v = %v, %d; want %v", b, safe, e, want)
	}
	if weak, e := gardens.Weak(b); !slices.Equal(weak, weakOf(b)) || e != api.OK {
		t.Errorf("Weak of %v = %v, %d; want %v", b, weak, e, weakOf(b))
	}
	for garden := range b.Costs {
		left := safeOf(burnt(b, list(garden)))
		if need, e := gardens.Need(b, garden); need != len(want)-len(left) || e != api.OK {
			t.Errorf("Need of %v, %d = %d, %d; %v are safe, and without it %v", b, garden, need, e, want, left)
		}
	}
}

// expectLeft checks After and Years.
func expectLeft(t *testing.T, b api.GardenBook, losses []int, seen map[string]int) {
	t.Helper()
	want, years := b, -1
	for at, loss := range losses {
		want = burnt(want, b.Losses[loss])
		if years < 0 && len(sortsOf(b, func(sort int) bool { return hasTree(b, sort) && !hasTree(want, sort) })) > 0 {
			years = at + 1
		}
	}
	left, e := gardens.After(b, losses)
	if e != api.OK || !isSameBook(left, want) {
		t.Errorf("After of %v, %v = %v, %d; want %v", b, losses, left, e, want)
	}
	expectNumber(t, "Years", func(b api.GardenBook) (int, api.Errno) { return gardens.Years(b, losses) }, b, years)
	if years < 0 {
		seen["no sort gone"]++
	} else {
		seen["a sort gone"]++
	}
}

func isSameBook(a, b api.GardenBook) bool {
	sameLosses := slices.EqualFunc(a.Losses, b.Losses, slices.Equal[[]int])
	return a.Sorts == b.Sorts && slices.Equal(a.Costs, b.Costs) && slices.Equal(a.Trees, b.Trees) && sameLosses
}

// expectCosts checks Cost, Plan and Sum, and returns what each sort costs, below 0 if there are no such grafts.
func expectCosts(t *testing.T, b api.GardenBook, seen map[string]int) []int {
	t.Helper()
	var costs []int
	for sort := range b.Sorts {
		plans, cost := plansOf(b, sort)
		costs = append(costs, cost)
		expectNumber(t, "Cost", func(b api.GardenBook) (int, api.Errno) { return gardens.Cost(b, sort) }, b, cost)
		if cost < 0 {
			seen["no grafts"]++
			cases.ExpectError(t, "no grafts", calls(b, asked{number: sort}), api.ErrNone, "Plan")
			continue
		}
		plan, e := gardens.Plan(b, sort)
		if e != api.OK || !slices.ContainsFunc(plans, func(may []int) bool { return slices.Equal(plan, may) }) {
			t.Errorf("Plan of %v, %d = %v, %d; want one of %v", b, sort, plan, e, plans)
		}
		seen[[]string{"safe", "one graft", "several grafts"}[min(len(plan), 2)]]++
	}
	sum := cases.Sum(costs)
	if slices.Contains(costs, -1) {
		sum = -1
	}
	expectNumber(t, "Sum", gardens.Sum, b, sum)
	return costs
}

// throwMoney returns about as much as some of the sorts cost.
func throwMoney(d *cases.Dice, costs []int) int {
	money := d.Below(3) - 1
	for _, cost := range costs {
		money += max(0, cost) * d.Below(2)
	}
	return max(0, money)
}

func expectSaves(t *testing.T, b api.GardenBook, costs []int, money int, seen map[string]int) {
	t.Helper()
	want := savesOf(costs, money)
	if sorts, e := gardens.Saves(b, money); !slices.Equal(sorts, want) || e != api.OK {
		t.Errorf("Saves of %v, %d = %v, %d; want %v", b, money, sorts, e, want)
	}
	what := "some saved"
	if len(want) == len(costs) {
		what = "all saved"
	} else if len(want) == 0 {
		what = "none saved"
	}
	seen[what]++
}
