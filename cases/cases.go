// Package cases helps the tests of all layers: it throws small cases, the same ones in each run, turns lists about, and writes truths down one by one.
package cases

import (
	"math"
	"slices"
)

// Dice are the same in each run, so that a test that fails does so again.
type Dice uint64

// Below returns a number from 0 to n - 1.
func (d *Dice) Below(n int) int {
	*d = *d*6364136223846793005 + 1442695040888963407
	return int(uint64(*d) >> 33 % uint64(n))
}

// Shuffled returns the numbers below n in some order.
func (d *Dice) Shuffled(n int) []int {
	var numbers []int
	for number := range n {
		numbers = slices.Insert(numbers, d.Below(number+1), number)
	}
	return numbers
}

// Odd returns some number that is seldom valid.
func (d *Dice) Odd() int {
	odd := []int{math.MinInt, math.MaxInt, -2, -1, 0, 1, 2, 5, 6, 7, 9, 10, math.MinInt + 1, math.MaxInt - 1}
	return odd[d.Below(len(odd))]
}

// Odds returns some such numbers.
func (d *Dice) Odds() []int {
	var numbers []int
	for range d.Below(8) {
		numbers = append(numbers, d.Odd())
	}
	return numbers
}

// OddRows returns some lists of such numbers.
func (d *Dice) OddRows() [][]int {
	var rows [][]int
	for range d.Below(8) {
		rows = append(rows, d.Odds())
	}
	return rows
}

// AllBelow returns each list of numbers that are below those of another list, place by place.
func AllBelow(limits []int) [][]int {
	all := [][]int{nil}
	for _, limit := range limits {
		var longer [][]int
		for _, numbers := range all {
			for number := range limit {
				longer = append(longer, append(slices.Clone(numbers), number))
			}
		}
		all = longer
	}
	return all
}

// Sets returns each strictly ascending list of numbers below n.
func Sets(n int) [][]int {
	sets := [][]int{nil}
	for number := range n {
		for _, set := range sets {
			sets = append(sets, append(slices.Clone(set), number))
		}
	}
	return sets
}

// Pick returns what comes to each place.
func Pick[T any](from []T, places []int) []T {
	var picked []T
	for _, place := range places {
		picked = append(picked, from[place])
	}
	return picked
}

// Back returns the numbers that the picked things had, ascending.
func Back(numbers, places []int) []int {
	was := Pick(places, numbers)
	slices.Sort(was)
	return was
}

// Subset reports whether all has each of some numbers.
func Subset(some, all []int) bool {
	return !slices.ContainsFunc(some, func(n int) bool { return !slices.Contains(all, n) })
}

// Sum returns the sum of some numbers.
func Sum(numbers []int) int {
	sum := 0
	for _, n := range numbers {
		sum += n
	}
	return sum
}

// CopyRows returns rows that share no memory with the given ones.
func CopyRows(rows [][]int) [][]int {
	var copied [][]int
	for _, row := range rows {
		copied = append(copied, slices.Clone(row))
	}
	return copied
}

// Spoil overwrites a list, and what is behind it in memory.
func Spoil(numbers []int) {
	numbers = numbers[:cap(numbers)]
	for i := range numbers {
		numbers[i] = 99
	}
}
