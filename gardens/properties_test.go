package gardens_test

import (
	"reflect"
	"slices"
	"testing"

	"pippin/api"
	"pippin/cases"
	"pippin/gardens"
)

// none stands for Cost if there is none: it is greater than each that there is.
const none = api.MaxGardens*api.MaxGardenCost + 1

// listIn calls Safe or Weak.
func listIn(t *testing.T, call func(b api.GardenBook) ([]int, api.Errno), b api.GardenBook) []int {
	t.Helper()
	numbers, e := call(b)
	if e != api.OK {
		t.Fatalf("%v: error %d", b, e)
	}
	return numbers
}

func safeIn(t *testing.T, b api.GardenBook) []int {
	t.Helper()
	return listIn(t, gardens.Safe, b)
}

// listFor calls Takes or Saves.
func listFor(t *testing.T, call func(b api.GardenBook, number int) ([]int, api.Errno), b api.GardenBook, number int) []int {
	t.Helper()
	return listIn(t, func(b api.GardenBook) ([]int, api.Errno) { return call(b, number) }, b)
}

func takesIn(t *testing.T, b api.GardenBook, loss int) []int {
	t.Helper()
	return listFor(t, gardens.Takes, b, loss)
}

func savesIn(t *testing.T, b api.GardenBook, money int) []int {
	t.Helper()
	return listFor(t, gardens.Saves, b, money)
}

// costIn calls Cost.
func costIn(t *testing.T, b api.GardenBook, sort int) int {
	t.Helper()
	cost, e := gardens.Cost(b, sort)
	if e == api.ErrNone {
		return none
	}
	if e != api.OK {
		t.Fatalf("Cost of %v, %d: error %d", b, sort, e)
	}
	return cost
}

// costsIn calls Cost of each sort.
func costsIn(t *testing.T, b api.GardenBook) []int {
	t.Helper()
	var costs []int
	for sort := range b.Sorts {
		costs = append(costs, costIn(t, b, sort))
	}
	return costs
}

func needIn(t *testing.T, b api.GardenBook, garden int) int {
	t.Helper()
	need, e := gardens.Need(b, garden)
	if e != api.OK {
		t.Fatalf("Need of %v, %d: error %d", b, garden, e)
	}
	return need
}

func afterIn(t *testing.T, b api.GardenBook, losses []int) api.GardenBook {
	t.Helper()
	left, e := gardens.After(b, losses)
	if e != api.OK {
		t.Fatalf("After of %v, %v: error %d", b, losses, e)
	}
	return left
}

// P10.13 (safe)
func TestSafe(t *testing.T) {
	safe := 0
	eachBook(func(_ *cases.Dice, b api.GardenBook) {
		var taken []int
		for loss := range b.Losses {
			taken = append(taken, takesIn(t, b, loss)...)
		}
		all := safeIn(t, b)
		for sort, cost := range costsIn(t, b) {
			is := slices.Contains(all, sort)
			if is == slices.Contains(taken, sort) || is != (cost == 0) {
				t.Errorf("%v: Safe is %v, losses take %v, Cost of %d is %d", b, all, taken, sort, cost)
			}
		}
		safe += len(all)
		calm := with(b, func(b *api.GardenBook) { b.Losses = nil })
		if all := safeIn(t, calm); len(all) != b.Sorts || slices.ContainsFunc(costsIn(t, calm), func(cost int) bool { return cost != 0 }) {
			t.Errorf("%v: Safe is %v, the costs are %v", calm, all, costsIn(t, calm))
		}
	})
	// a test that saw few safe sorts would say little
	if safe < 200 {
		t.Errorf("only %d sorts are safe", safe)
	}
}

// P10.14 (the cheapest grafts)
func TestCheapestGrafts(t *testing.T) {
	dear := 0
	eachBook(func(_ *cases.Dice, b api.GardenBook) {
		for sort, cost := range costsIn(t, b) {
			plan, e := gardens.Plan(b, sort)
			if (e == api.OK) != (cost < none) {
				t.Errorf("%v, %d: Cost is %d, Plan has the error %d", b, sort, cost, e)
			}
			if e == api.OK {
				expectPlan(t, b, sort, plan, cost)
			}
			for _, in := range cases.Sets(len(b.Costs)) {
				if priceOf(b, in) >= cost || !areGrafts(b, sort, in) {
					continue
				}
				dear++
				if slices.Contains(safeIn(t, planted(b, sort, in)), sort) {
					t.Errorf("%v: Cost of %d is %d, but it is safe with grafts in %v", b, sort, cost, in)
				}
			}
		}
	})
	if dear < 500 {
		t.Errorf("only %d other grafts cost less", dear)
	}
}

// expectPlan checks that a plan has grafts with which a sort is safe and that cost so much.
func expectPlan(t *testing.T, b api.GardenBook, sort int, plan []int, cost int) {
	t.Helper()
	ascending := slices.Equal(plan, slices.Compact(slices.Sorted(slices.Values(plan))))
	if !ascending || !areGrafts(b, sort, plan) || priceOf(b, plan) != cost || !slices.Contains(safeIn(t, planted(b, sort, plan)), sort) {
		t.Errorf("%v: Plan of %d is %v, Cost %d", b, sort, plan, cost)
	}
}

// P10.15 (one more tree): also of a sort that has none.
func TestOneMoreTree(t *testing.T) {
	helped := 0
	eachBook(func(_ *cases.Dice, b api.GardenBook) {
		for sort := range b.Sorts {
			for garden := range b.Costs {
				if slices.Contains(b.Trees, tree(sort, garden)) {
					continue
				}
				more := planted(b, sort, list(garden))
				for loss := range b.Losses {
					if takes, now := takesIn(t, b, loss), takesIn(t, more, loss); !cases.Subset(now, takes) {
						t.Errorf("Takes of %v, %d is %v; of %v it is %v", b, loss, takes, more, now)
					}
				}
				expectNoLess(t, more, b)
				if costIn(t, more, sort) < costIn(t, b, sort) {
					helped++
				}
			}
		}
	})
	if helped < 200 {
		t.Errorf("one more tree helps only %d times", helped)
	}
}

// expectNoLess checks that in a better book at least as many sorts are safe as in a worse one, and no Cost is greater.
func expectNoLess(t *testing.T, better, worse api.GardenBook) {
	t.Helper()
	if safe, now := safeIn(t, worse), safeIn(t, better); !cases.Subset(safe, now) {
		t.Errorf("Safe of %v is %v; of %v it is %v", worse, safe, better, now)
	}
	costs := costsIn(t, worse)
	for sort, cost := range costsIn(t, better) {
		if cost > costs[sort] {
			t.Errorf("Cost of %v, %d is %d; of %v it is %d", worse, sort, costs[sort], better, cost)
		}
	}
}

// P10.15 (one more loss)
func TestOneMoreLoss(t *testing.T) {
	hurt := 0
	eachBook(func(_ *cases.Dice, b api.GardenBook) {
		for _, loss := range cases.Sets(len(b.Costs))[1:] {
			more := with(b, func(b *api.GardenBook) { b.Losses = append(b.Losses, loss) })
			if gardens.Check(more) != api.OK {
				continue
			}
			expectNoLess(t, b, more)
			if len(safeIn(t, more)) < len(safeIn(t, b)) {
				hurt++
			}
		}
	})
	if hurt < 200 {
		t.Errorf("one more loss hurts only %d times", hurt)
	}
}

// P10.16 (each loss)
func TestEachLoss(t *testing.T) {
	several := 0
	eachBook(func(d *cases.Dice, b api.GardenBook) {
		losses := throwLosses(d, b)
		left := afterIn(t, b, losses)
		stays := func(tree api.GardenTree) bool {
			return !slices.ContainsFunc(losses, func(loss int) bool { return slices.Contains(b.Losses[loss], tree.Garden) })
		}
		for _, tree := range b.Trees {
			if slices.Contains(left.Trees, tree) != stays(tree) {
				t.Errorf("After of %v, %v is %v; what of %v?", b, losses, left, tree)
			}
		}
		if len(left.Trees) > len(b.Trees) || !reflect.DeepEqual(afterIn(t, b, cases.Pick(losses, d.Shuffled(len(losses)))), left) {
			t.Errorf("After of %v, %v is %v, but not in any order", b, losses, left)
		}
		for loss := range b.Losses {
			one := afterIn(t, b, list(loss))
			want := sortsOf(b, func(sort int) bool { return !hasTree(one, sort) })
			if takes := takesIn(t, b, loss); !slices.Equal(takes, want) {
				t.Errorf("%v: Takes of %d is %v; it leaves %v", b, loss, takes, one)
			}
		}
		if expectYears(t, b, losses) > 1 {
			several++
		}
	})
	if several < 30 {
		t.Errorf("Years is greater than 1 only %d times", several)
	}
}

// expectYears checks that Years is the least number of first losses behind which a sort is gone, and returns it; 0 if there is none.
func expectYears(t *testing.T, b api.GardenBook, losses []int) int {
	t.Helper()
	want := 0
	for many := len(losses); many > 0; many-- {
		left := afterIn(t, b, losses[:many])
		if len(sortsOf(b, func(sort int) bool { return hasTree(b, sort) && !hasTree(left, sort) })) > 0 {
			want = many
		}
	}
	years, e := gardens.Years(b, losses)
	if years != want || (e == api.OK) != (want > 0) {
		t.Errorf("Years of %v, %v = %d, %d; want %d", b, losses, years, e, want)
	}
	return years
}

// P10.17 (the money)
func TestMoney(t *testing.T) {
	more := 0
	eachBook(func(_ *cases.Dice, b api.GardenBook) {
		costs := costsIn(t, b)
		most := cases.Sum(costs) + 3
		var last []int
		for money := 0; money <= most; money += 1 + most/30 {
			sorts := savesIn(t, b, money)
			if len(sorts) < len(last) || cases.Sum(cases.Pick(costs, sorts)) > money {
				t.Errorf("%v: Saves of %d is %v; of less it was %v, and the costs are %v", b, money, sorts, last, costs)
			}
			if len(sorts) > len(last) {
				more++
			}
			last = sorts
		}
		sum, e := gardens.Sum(b)
		if (e == api.OK) == slices.Contains(costs, none) || e == api.OK && (sum != cases.Sum(costs) || len(savesIn(t, b, sum)) != b.Sorts) {
			t.Errorf("%v: Sum = %d, %d; the costs are %v", b, sum, e, costs)
		}
	})
	if more < 200 {
		t.Errorf("more money saves more sorts only %d times", more)
	}
}

// moved returns a book whose gardens come in another order.
func moved(b api.GardenBook, places []int) api.GardenBook {
	return with(b, func(b *api.GardenBook) {
		b.Costs = cases.Pick(b.Costs, places)
		trees := b.Trees
		b.Trees = nil
		for sort := range b.Sorts {
			for garden, was := range places {
				if slices.Contains(trees, tree(sort, was)) {
					b.Trees = append(b.Trees, tree(sort, garden))
				}
			}
		}
		for at, loss := range b.Losses {
			b.Losses[at] = ahead(loss, places)
		}
	})
}

// ahead returns the numbers that gardens have in another order, ascending.
func ahead(gardens, places []int) []int {
	var now []int
	for garden, was := range places {
		if slices.Contains(gardens, was) {
			now = append(now, garden)
		}
	}
	return now
}

// P10.18 (any order): of gardens.
func TestAnyOrderOfGardens(t *testing.T) {
	eachBook(func(d *cases.Dice, b api.GardenBook) {
		places := d.Shuffled(len(b.Costs))
		other := moved(b, places)
		for loss := range b.Losses {
			if takes, again := takesIn(t, b, loss), takesIn(t, other, loss); !slices.Equal(takes, again) {
				t.Errorf("Takes of %v, %d is %v; of %v it is %v", b, loss, takes, other, again)
			}
		}
		expectSameCosts(t, d, b, other)
		if weak, again := listIn(t, gardens.Weak, b), listIn(t, gardens.Weak, other); !slices.Equal(ahead(weak, places), again) {
			t.Errorf("Weak of %v is %v; of %v it is %v", b, weak, other, again)
		}
		for garden, was := range places {
			if need, again := needIn(t, b, was), needIn(t, other, garden); need != again {
				t.Errorf("Need of %v, %d is %d; of %v, %d it is %d", b, was, need, other, garden, again)
			}
		}
		losses := throwLosses(d, b)
		if left, again := moved(afterIn(t, b, losses), places), afterIn(t, other, losses); !isSameBook(left, again) {
			t.Errorf("After of %v, %v is %v; of %v it is %v", b, losses, left, other, again)
		}
		years, e := gardens.Years(b, losses)
		if again, f := gardens.Years(other, losses); years != again || e != f {
			t.Errorf("Years of %v, %v = %d, %d; of %v it is %d, %d", b, losses, years, e, other, again, f)
		}
		// of several gardens that are alike the first one is another one then
		next, e := gardens.Next(b)
		again, f := gardens.Next(other)
		if e != f || e == api.OK && (next.Sort != again.Sort || b.Costs[next.Garden] != other.Costs[again.Garden]) {
			t.Errorf("Next of %v = %v, %d; of %v it is %v, %d", b, next, e, other, again, f)
		}
	})
}

// expectSameCosts checks that Safe, Cost, Plan, Sum and Saves are the same of two books, but for the gardens of Plan.
func expectSameCosts(t *testing.T, d *cases.Dice, b, other api.GardenBook) {
	t.Helper()
	costs, again := costsIn(t, b), costsIn(t, other)
	if !slices.Equal(safeIn(t, b), safeIn(t, other)) || !slices.Equal(costs, again) {
		t.Errorf("%v: Safe is %v, the costs are %v; of %v they are %v, %v", b, safeIn(t, b), costs, other, safeIn(t, other), again)
	}
	for sort, cost := range again {
		if plan, e := gardens.Plan(other, sort); e == api.OK {
			expectPlan(t, other, sort, plan, cost)
		}
	}
	sum, e := gardens.Sum(b)
	if again, f := gardens.Sum(other); sum != again || e != f {
		t.Errorf("Sum of %v = %d, %d; of %v it is %d, %d", b, sum, e, other, again, f)
	}
	money := throwMoney(d, costs)
	if sorts, again := savesIn(t, b, money), savesIn(t, other, money); !slices.Equal(sorts, again) {
		t.Errorf("Saves of %v, %d is %v; of %v it is %v", b, money, sorts, other, again)
	}
}

// P10.18 (any order): of losses.
func TestAnyOrderOfLosses(t *testing.T) {
	eachBook(func(d *cases.Dice, b api.GardenBook) {
		places := d.Shuffled(len(b.Losses))
		other := with(b, func(b *api.GardenBook) { b.Losses = cases.Pick(b.Losses, places) })
		for loss, was := range places {
			if takes, again := takesIn(t, b, was), takesIn(t, other, loss); !slices.Equal(takes, again) {
				t.Errorf("Takes of %v, %d is %v; of %v, %d it is %v", b, was, takes, other, loss, again)
			}
		}
		expectSameCosts(t, d, b, other)
		next, e := gardens.Next(b)
		if again, f := gardens.Next(other); next != again || e != f {
			t.Errorf("Next of %v = %v, %d; of %v it is %v, %d", b, next, e, other, again, f)
		}
		if weak, again := listIn(t, gardens.Weak, b), listIn(t, gardens.Weak, other); !slices.Equal(weak, again) {
			t.Errorf("Weak of %v is %v; of %v it is %v", b, weak, other, again)
		}
		for garden := range b.Costs {
			if need, again := needIn(t, b, garden), needIn(t, other, garden); need != again {
				t.Errorf("Need of %v, %d is %d; of %v it is %d", b, garden, need, other, again)
			}
		}
		losses := throwLosses(d, other)
		same := cases.Pick(places, losses)
		if left, again := afterIn(t, b, same), afterIn(t, other, losses); !slices.Equal(left.Trees, again.Trees) {
			t.Errorf("After of %v, %v is %v; of %v, %v it is %v", b, same, left, other, losses, again)
		}
		years, e := gardens.Years(b, same)
		if again, f := gardens.Years(other, losses); years != again || e != f {
			t.Errorf("Years of %v, %v = %d, %d; of %v, %v it is %d, %d", b, same, years, e, other, losses, again, f)
		}
	})
}

// lists returns the lists that the functions return.
func lists(b api.GardenBook, a asked) [][]int {
	takes, _ := gardens.Takes(b, a.number)
	safe, _ := gardens.Safe(b)
	left, _ := gardens.After(b, a.losses)
	plan, _ := gardens.Plan(b, a.number)
	saves, _ := gardens.Saves(b, a.number)
	weak, _ := gardens.Weak(b)
	return append(left.Losses, takes, safe, left.Costs, plan, saves, weak)
}

// R4: no argument is changed, not even behind its lists, and no result is a part of one.
func TestNewMemory(t *testing.T) {
	eachBook(func(d *cases.Dice, b api.GardenBook) {
		longer := with(b, func(b *api.GardenBook) {
			b.Costs, b.Trees, b.Losses = append(b.Costs, 98), append(b.Trees, tree(98, 98)), append(b.Losses, list(98))
			for at, loss := range b.Losses {
				b.Losses[at] = append(loss, 98)
			}
		})
		losses := append(throwLosses(d, b), 98)
		was, wasLosses := cases.CopyGardenBook(longer), slices.Clone(losses)
		// the lists of this one end earlier
		cut := api.GardenBook{Sorts: b.Sorts, Costs: longer.Costs[:len(b.Costs)], Trees: longer.Trees[:len(b.Trees)]}
		for _, loss := range longer.Losses[:len(b.Losses)] {
			cut.Losses = append(cut.Losses, loss[:len(loss)-1])
		}
		wasCut := slices.Clone(cut.Losses)
		a := asked{d.Below(7), losses[:len(losses)-1]}
		calls(cut, a)
		left := afterIn(t, cut, a.losses)
		for _, result := range lists(cut, a) {
			cases.Spoil(result)
		}
		for at := range left.Trees {
			left.Trees[at] = tree(97, 97)
		}
		for at := range left.Losses {
			left.Losses[at] = nil
		}
		if !reflect.DeepEqual(longer, was) || !slices.Equal(losses, wasLosses) || !reflect.DeepEqual(cut.Losses, wasCut) {
			t.Errorf("%v, %v came to be %v, %v", was, wasLosses, longer, losses)
		}
	})
}

// The same arguments have the same results, also after results were overwritten.
func TestTheSameAgain(t *testing.T) {
	eachBook(func(d *cases.Dice, b api.GardenBook) {
		a := asked{d.Below(7), throwLosses(d, b)}
		cases.ExpectOwnLists(t, func() [][]int { return lists(b, a) }, b, a)
		if outcomes, again := calls(b, a), calls(b, a); !slices.Equal(outcomes, again) {
			t.Errorf("%v, %v: %v, and again %v", b, a, outcomes, again)
		}
	})
}

// R3: nil and empty lists are the same.
func TestNilAndEmpty(t *testing.T) {
	empty := api.GardenBook{Costs: []int{}, Trees: []api.GardenTree{}, Losses: [][]int{}}
	for name, pair := range map[string][2]api.GardenBook{
		"nothing": {{}, empty},
		"sorts":   {{Sorts: 2}, with(empty, func(b *api.GardenBook) { b.Sorts = 2 })},
		"trees":   {{Sorts: 1, Costs: list(1), Losses: rows(list(0))}, {Sorts: 1, Costs: list(1), Trees: []api.GardenTree{}, Losses: rows(list(0))}},
		"losses":  {calm(), with(calm(), func(b *api.GardenBook) { b.Losses = [][]int{} })},
		"a loss":  {{Costs: list(1), Losses: rows(nil)}, {Costs: list(1), Losses: rows([]int{})}},
	} {
		if outcomes, others := calls(pair[0], asked{}), calls(pair[1], asked{losses: []int{}}); !slices.Equal(outcomes, others) {
			t.Errorf("%s: %v of nil; %v of empty", name, outcomes, others)
		}
	}
}

// spoilt returns a book of which one thing, or all, is as it comes.
func spoilt(d *cases.Dice, b api.GardenBook) api.GardenBook {
	what := d.Below(5)
	if what == 0 || what == 4 {
		b.Sorts = d.Odd()
	}
	if what == 1 || what == 4 {
		b.Costs = d.Odds()
	}
	if what == 2 || what == 4 {
		b.Trees = nil
		for range d.Below(9) {
			b.Trees = append(b.Trees, tree(d.Odd(), d.Odd()))
		}
	}
	if what == 3 || what == 4 {
		b.Losses = d.OddRows()
	}
	return b
}

// P1 (DOC.md): every function terminates, and none panics, whatever its arguments are; R2 holds for them, too.
func TestAnyArguments(t *testing.T) {
	eachBook(func(d *cases.Dice, b api.GardenBook) {
		if d.Below(4) > 0 {
			b = spoilt(d, b)
		}
		for range 3 {
			a := asked{d.Odd(), d.Odds()}
			cases.ExpectNothingElse(t, calls(b, a), b, a)
		}
	})
	const many = 1 << 20
	for name, b := range map[string]api.GardenBook{
		"many gardens":   with(full(), func(b *api.GardenBook) { b.Costs = slices.Repeat(list(1), many) }),
		"many trees":     with(full(), func(b *api.GardenBook) { b.Trees = slices.Repeat(b.Trees, many/36) }),
		"many losses":    with(full(), func(b *api.GardenBook) { b.Losses = slices.Repeat(b.Losses, many/6) }),
		"a loss of many": with(full(), func(b *api.GardenBook) { b.Losses[5] = slices.Repeat(list(5), many) }),
		"many of all":    {Sorts: many, Costs: make([]int, many), Trees: make([]api.GardenTree, many), Losses: make([][]int, many)},
	} {
		cases.ExpectError(t, name, calls(b, asked{losses: make([]int, many)}), api.ErrGarden)
	}
}
