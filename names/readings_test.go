package names_test

import (
	"math/bits"
	"slices"
	"testing"

	"pippin/api"
	"pippin/cases"
	"pippin/names"
)

// once returns numbers, each of them once, ascending.
func once(numbers []int) []int {
	return slices.Compact(slices.Sorted(slices.Values(numbers)))
}

// ways writes down the sorts of so many names in each way in which they can be: a sort that is new is the next number.
func ways(many int) [][]int {
	all := [][]int{nil}
	for range many {
		var longer [][]int
		for _, sorts := range all {
			for sort := range len(once(sorts)) + 1 {
				longer = append(longer, append(slices.Clone(sorts), sort))
			}
		}
		all = longer
	}
	return all
}

func holds(l api.NameLetter, sorts []int) bool {
	return (sorts[l.A] == sorts[l.B]) == (l.Same == 1)
}

func allHold(b api.NameBook, sorts []int) bool {
	return !slices.ContainsFunc(b.Letters, func(l api.NameLetter) bool { return !holds(l, sorts) })
}

// readings writes down each reading, as the chapter defines it.
func readings(b api.NameBook) [][]int {
	return slices.DeleteFunc(ways(b.Names), func(sorts []int) bool { return !allHold(b, sorts) })
}

// only returns a book with some of its letters alone.
func only(b api.NameBook, letters []int) api.NameBook {
	return book(b.Names, cases.Pick(b.Letters, letters)...)
}

// throwBook returns a book with so many names and letters, which are as some sorts of the names are in one book of three.
func throwBook(d *cases.Dice, many, letters int) api.NameBook {
	b := book(many)
	agree, ones := d.Below(3) == 0, 1+d.Below(3)
	var sorts []int
	for range many {
		sorts = append(sorts, d.Below(4))
	}
	for range letters {
		places := d.Shuffled(many)
		l := two(places[0], places[1])
		if agree && !holds(l, sorts) || !agree && d.Below(4) < ones {
			l.Same = 1
		}
		b.Letters = append(b.Letters, l)
	}
	return b
}

// eachBook calls a test with many small books, all of them valid, and a few that are as large as they can be.
func eachBook(test func(d *cases.Dice, b api.NameBook)) {
	d := cases.Dice(4)
	test(&d, book(0))
	test(&d, book(1))
	for range 1000 {
		many := 2 + d.Below(5)
		test(&d, throwBook(&d, many, d.Below(11)))
	}
	for range 20 {
		test(&d, throwBook(&d, api.MaxNames, api.MaxNameLetters))
	}
}

// P4.2 to P4.14: what all readings say, written down one by one.
func TestAgainstAllReadings(t *testing.T) {
	contradict := 0
	eachBook(func(_ *cases.Dice, b api.NameBook) {
		compareLetters(t, b)
		all := readings(b)
		if len(all) == 0 {
			contradict++
			return
		}
		compareSaid(t, b, all)
		compareSorts(t, b, all)
		compareOpen(t, b, all)
	})
	// a test that saw few books of one kind would say little
	if contradict < 200 || contradict > 800 {
		t.Errorf("%d books contradict themselves", contradict)
	}
}

// together returns, of each way in which the names can be, the set of the letters that are so in it.
func together(b api.NameBook) []uint {
	var sets []uint
	for _, sorts := range ways(b.Names) {
		set := uint(0)
		for number, l := range b.Letters {
			if holds(l, sorts) {
				set |= 1 << number
			}
		}
		if !slices.Contains(sets, set) {
			sets = append(sets, set)
		}
	}
	return sets
}

// contradicts reports whether the letters of a set are never so together.
func contradicts(set uint, sets []uint) bool {
	return !slices.ContainsFunc(sets, func(other uint) bool { return set&^other == 0 })
}

func setOf(numbers []int) uint {
	set := uint(0)
	for _, number := range numbers {
		set |= 1 << number
	}
	return set
}

func compareLetters(t *testing.T, b api.NameBook) {
	t.Helper()
	sets := together(b)
	full := uint(1)<<len(b.Letters) - 1
	most := 0
	for _, set := range sets {
		most = max(most, bits.OnesCount(set))
	}
	if drop, e := names.Drop(b); drop != len(b.Letters)-most || e != api.OK {
		t.Errorf("Drop of %v = %d, %d; want %d", b, drop, e, len(b.Letters)-most)
	}
	keep, e := names.Keep(b)
	if len(keep) != most || !ascending(keep, len(b.Letters)) || contradicts(setOf(keep), sets) || e != api.OK {
		t.Errorf("Keep of %v = %v, %d; want %d letters", b, keep, e, most)
	}
	if !contradicts(full, sets) {
		cases.ExpectError(t, "no contradiction", calls(b, asked{}), api.ErrNone, "Clash", "Proof", "First")
		return
	}
	clash := len(b.Letters)
	for set := range full + 1 {
		if contradicts(set, sets) {
			clash = min(clash, bits.OnesCount(set))
		}
	}
	first := 0
	for !contradicts(uint(2)<<first-1, sets) {
		first++
	}
	compareProof(t, b, clash, first, sets)
}

func compareProof(t *testing.T, b api.NameBook, clash, first int, sets []uint) {
	t.Helper()
	if n, e := names.Clash(b); n != clash || e != api.OK {
		t.Errorf("Clash of %v = %d, %d; want %d", b, n, e, clash)
	}
	proof, e := names.Proof(b)
	if len(proof) != clash || !ascending(proof, len(b.Letters)) || !contradicts(setOf(proof), sets) || e != api.OK {
		t.Errorf("Proof of %v = %v, %d; want %d letters", b, proof, e, clash)
	}
	if n, e := names.First(b); n != first || e != api.OK {
		t.Errorf("First of %v = %d, %d; want %d", b, n, e, first)
	}
}

// known returns what all readings say of two names.
func known(all [][]int, a, c int) int {
	ones := 0
	for _, sorts := range all {
		if sorts[a] == sorts[c] {
			ones++
		}
	}
	switch ones {
	case len(all):
		return api.Surely
	case 0:
		return api.Never
	}
	return api.Perhaps
}

func compareSaid(t *testing.T, b api.NameBook, all [][]int) {
	t.Helper()
	for a := range b.Names {
		var want []int
		for c := range b.Names {
			if known(all, a, c) == api.Surely {
				want = append(want, c)
			}
		}
		if of, e := names.Of(b, a); !slices.Equal(of, want) || e != api.OK {
			t.Errorf("Of of %v, %d = %v, %d; want %v", b, a, of, e, want)
		}
		for c := range b.Names {
			if a == c {
				continue
			}
			if n, e := names.Says(b, a, c); n != known(all, a, c) || e != api.OK {
				t.Errorf("Says of %v, %d, %d = %d, %d; want %d", b, a, c, n, e, known(all, a, c))
			}
			compareRow(t, b, a, c, all)
		}
	}
}

func compareRow(t *testing.T, b api.NameBook, a, c int, all [][]int) {
	t.Helper()
	if known(all, a, c) != api.Surely {
		cases.ExpectError(t, "not one", calls(b, asked{a, c}), api.ErrNone, "Row")
		return
	}
	row, e := names.Row(b, a, c)
	if e != api.OK || len(row) != steps(b, a, c) || !leads(b, row, a, c) {
		t.Errorf("Row of %v, %d, %d = %v, %d; want %d letters", b, a, c, row, e, steps(b, a, c))
	}
}

// steps counts how often the names that are one with a name by some letters have to be widened by the names of one more letter, until another name is among them.
func steps(b api.NameBook, a, c int) int {
	have := list(a)
	for many := 0; ; many++ {
		if slices.Contains(have, c) {
			return many
		}
		var more []int
		for _, l := range b.Letters {
			if l.Same == 1 && slices.Contains(have, l.A) != slices.Contains(have, l.B) {
				more = append(more, l.A, l.B)
			}
		}
		have = append(have, more...)
	}
}

// leads reports whether letters that say that names are one lead from a name to another one.
func leads(b api.NameBook, row []int, a, c int) bool {
	at := a
	for _, number := range row {
		if number < 0 || number >= len(b.Letters) {
			return false
		}
		l := b.Letters[number]
		if l.Same != 1 || l.A != at && l.B != at {
			return false
		}
		at = l.A + l.B - at
	}
	return at == c
}

func compareSorts(t *testing.T, b api.NameBook, all [][]int) {
	t.Helper()
	var many []int
	for _, sorts := range all {
		many = append(many, len(once(sorts)))
	}
	want := api.Span{Low: slices.Min(many), High: slices.Max(many)}
	if sorts, e := names.Sorts(b); sorts != want || e != api.OK {
		t.Errorf("Sorts of %v = %v, %d; want %v", b, sorts, e, want)
	}
	expectPainted(t, b, want.Low)
}

// unknown returns the pairs of names that can be one or two, by all readings.
func unknown(many int, all [][]int) []api.NamePair {
	var pairs []api.NamePair
	for a := range many {
		for c := a + 1; c < many; c++ {
			if known(all, a, c) == api.Perhaps {
				pairs = append(pairs, pair(a, c))
			}
		}
	}
	return pairs
}

func compareOpen(t *testing.T, b api.NameBook, all [][]int) {
	t.Helper()
	open := unknown(b.Names, all)
	if n, e := names.Open(b); n != len(open) || e != api.OK {
		t.Errorf("Open of %v = %d, %d; want %d", b, n, e, len(open))
	}
	var want api.NamePair
	least := -1
	for a := range b.Names {
		for c := range b.Names {
			if a == c {
				continue
			}
			left := leftAfter(b.Names, all, a, c)
			if n, e := names.After(b, a, c); n != left || e != api.OK {
				t.Errorf("After of %v, %d, %d = %d, %d; want %d", b, a, c, n, e, left)
			}
			if slices.Contains(open, pair(a, c)) && (least < 0 || left < least) {
				want, least = pair(a, c), left
			}
		}
	}
	if len(open) == 0 {
		cases.ExpectError(t, "all known", calls(b, asked{}), api.ErrNone, "Next")
	} else if next, e := names.Next(b); next != want || e != api.OK {
		t.Errorf("Next of %v = %v, %d; want %v", b, next, e, want)
	}
}

// leftAfter counts the pairs that are left at the worst when one more letter says of two names whether they are one.
func leftAfter(many int, all [][]int, a, c int) int {
	var ones, twos [][]int
	for _, sorts := range all {
		if sorts[a] == sorts[c] {
			ones = append(ones, sorts)
		} else {
			twos = append(twos, sorts)
		}
	}
	most := 0
	for _, left := range [][][]int{ones, twos} {
		if len(left) > 0 {
			most = max(most, len(unknown(many, left)))
		}
	}
	return most
}
