package scions_test

import (
	"slices"
	"testing"

	"pippin/api"
	"pippin/cases"
	"pippin/scions"
)

// isGift reports whether a gift is strictly ascending, with wants of a list.
func isGift(l api.ScionList, gift []int) bool {
	for at, number := range gift {
		if number < 0 || number >= len(l.Wants) || at > 0 && number <= gift[at-1] {
			return false
		}
	}
	return true
}

// countsOf returns how often a gift gives each sort.
func countsOf(l api.ScionList, gift []int) []int {
	counts := make([]int, len(l.Scions))
	for _, number := range gift {
		counts[l.Wants[number].Sort]++
	}
	return counts
}

// safeOf returns how many sorts are safe by a gift.
func safeOf(l api.ScionList, gift []int) int {
	counts := countsOf(l, gift)
	return len(slices.DeleteFunc(counts, func(often int) bool { return often < 2 }))
}

// fits says whether a gift fits, as the chapter defines it.
func fits(l api.ScionList, gift []int) bool {
	for sort, often := range countsOf(l, gift) {
		if often > l.Scions[sort] {
			return false
		}
	}
	gets := make([]int, len(l.Gardens))
	for at, number := range gift {
		w := l.Wants[number]
		gets[w.Garden]++
		for _, other := range gift[:at] {
			v := l.Wants[other]
			if v.Sort == w.Sort && l.Gardens[v.Garden].Frost == l.Gardens[w.Garden].Frost {
				return false
			}
		}
	}
	for garden, many := range gets {
		if many > l.Gardens[garden].Places {
			return false
		}
	}
	return true
}

// lostOf returns the sorts that a gift gives, and gives only to gardens that a frost takes.
func lostOf(l api.ScionList, gift []int, frost int) []int {
	var lost []int
	for sort := range l.Scions {
		taken, left := 0, 0
		for _, number := range gift {
			if w := l.Wants[number]; w.Sort == sort && l.Gardens[w.Garden].Frost == frost {
				taken++
			} else if w.Sort == sort {
				left++
			}
		}
		if taken > 0 && left == 0 {
			lost = append(lost, sort)
		}
	}
	return lost
}

// fitting writes down all gifts that fit.
func fitting(l api.ScionList) [][]int {
	return slices.DeleteFunc(cases.Sets(len(l.Wants)), func(gift []int) bool { return !fits(l, gift) })
}

// told is what all gifts that fit together say.
type told struct {
	most, safe  int
	alone, best []int
}

func tell(l api.ScionList) told {
	all := told{0, 0, make([]int, len(l.Scions)), make([]int, len(l.Scions))}
	for _, gift := range fitting(l) {
		counts := countsOf(l, gift)
		all.most, all.safe = max(all.most, len(gift)), max(all.safe, safeOf(l, gift))
		for sort, often := range counts {
			all.alone[sort] = max(all.alone[sort], often)
		}
		if slices.Compare(counts, all.best) > 0 {
			all.best = counts
		}
	}
	return all
}

// eachList calls a test with many small lists.
func eachList(test func(d *cases.Dice, l api.ScionList)) {
	d := cases.Dice(6)
	for _, l := range []api.ScionList{{}, listP(), listQ(), moved(), scarce(), greedy(2), greedy(4)} {
		test(&d, l)
	}
	for range 1000 {
		sorts, gardens, wants := d.Below(api.MaxScionSorts+1), d.Below(api.MaxScionGardens+1), d.Below(8)
		test(&d, d.ScionList(sorts, gardens, wants))
	}
}

// eachLarge calls a test with some lists that have as many wants as there can be.
func eachLarge(test func(d *cases.Dice, l api.ScionList)) {
	d := cases.Dice(60)
	test(&d, full())
	test(&d, frozen())
	for range 30 {
		test(&d, d.ScionList(3+d.Below(2), 4+d.Below(2), api.MaxScionWants))
	}
}

// P6.2, P6.3: all gifts, of which those that fit are written down as the chapter defines them.
func TestFitsAgainstTheChapter(t *testing.T) {
	good, many := 0, 0
	eachList(func(_ *cases.Dice, l api.ScionList) {
		for _, gift := range cases.Sets(len(l.Wants)) {
			want := fits(l, gift)
			if is, e := scions.Fits(l, gift); is != want || e != api.OK {
				t.Errorf("Fits of %v, %v = %t, %d", l, gift, is, e)
			}
			expectLost(t, l, gift, want)
			good += truth(want)
			many++
		}
	})
	// a test that saw few gifts of one kind would say little
	if good < many/10 || good > many*9/10 {
		t.Errorf("%d of %d gifts fit", good, many)
	}
}

// expectLost checks Lost of a gift by each frost.
func expectLost(t *testing.T, l api.ScionList, gift []int, fits bool) {
	t.Helper()
	for frost := range api.MaxFrosts {
		lost, e := scions.Lost(l, gift, frost)
		if !fits && (len(lost) > 0 || e != api.ErrArg) {
			t.Errorf("Lost of %v, %v, which does not fit, by %d = %v, %d", l, gift, frost, lost, e)
		}
		if want := lostOf(l, gift, frost); fits && (!slices.Equal(lost, want) || e != api.OK) {
			t.Errorf("Lost of %v, %v by %d = %v, %d; want %v", l, gift, frost, lost, e, want)
		}
	}
}

// P6.4 to P6.11: what all gifts that fit say, written down one by one.
func TestAgainstAllGifts(t *testing.T) {
	test := func(_ *cases.Dice, l api.ScionList) {
		all := tell(l)
		var place, weak []int
		for garden := range l.Gardens {
			more := tell(with(l, func(l *api.ScionList) { l.Gardens[garden].Places++ }))
			place = append(place, more.most-all.most)
			if tell(without(l, garden)).safe < all.safe {
				weak = append(weak, garden)
			}
		}
		most, e := scions.Most(l)
		best, f := scions.Best(l)
		safe, g := scions.Safe(l)
		if most != all.most || !slices.Equal(best, all.best) || safe != all.safe || e != api.OK || f != api.OK || g != api.OK {
			t.Errorf("%v: Most = %d, %d; Best = %v, %d; Safe = %d, %d; want %v", l, most, e, best, f, safe, g, all)
		}
		if gardens, e := scions.Weak(l); !slices.Equal(gardens, weak) || e != api.OK {
			t.Errorf("Weak of %v = %v, %d; want %v", l, gardens, e, weak)
		}
		expectEach(t, l, all.alone, place)
		expectGiven(t, l, all.best, all.safe)
	}
	eachList(test)
	eachLarge(test)
}

// without returns a list without the wants of a garden.
func without(l api.ScionList, garden int) api.ScionList {
	return with(l, func(l *api.ScionList) {
		l.Wants = slices.DeleteFunc(l.Wants, func(w api.ScionWant) bool { return w.Garden == garden })
	})
}
