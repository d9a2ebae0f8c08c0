package lost_test

import (
	"slices"
	"testing"

	"pippin/api"
	"pippin/cases"
	"pippin/lost"
	"pippin/scions"
)

// nursery is the garden from which the wood is sent; the gardens of a list of scions come behind it.
const nursery = 0

// sent returns the search in which a nursery sends the wood of a sort in the year 1 by a gift, with what is known of each of its gifts, and the gardens of the list to which it goes.
func sent(l api.ScionList, wants []int, sort, lives, known int) (api.LostSearch, []int) {
	x := row(1+len(l.Gardens), lives)
	var gardens []int
	for _, number := range wants {
		if w := l.Wants[number]; w.Sort == sort {
			x.Gifts = append(x.Gifts, gift(nursery, 1+w.Garden, 1, known))
			gardens = append(gardens, w.Garden)
		}
	}
	slices.Sort(gardens)
	return x, gardens
}

// P0.3 (the sort that is sent out)
func TestSortThatIsSentOut(t *testing.T) {
	d := cases.Dice(3)
	several, one := 0, 0
	for range 1000 {
		l := d.ScionList(1+d.Below(api.MaxScionSorts), 1+d.Below(api.MaxScionGardens), d.Below(api.MaxScionWants+1))
		wants := d.FittingGift(l, func(gift []int) bool {
			fits, e := scions.Fits(l, gift)
			return fits && e == api.OK
		})
		for sort := range l.Scions {
			lives := 2 + d.Below(api.MaxLostYear-1)
			x, gardens := sent(l, wants, sort, lives, []int{api.Surely, api.Perhaps}[d.Below(2)])
			expectSent(t, x, gardens)
			surely, _ := sent(l, wants, sort, lives, api.Surely)
			expectLeft(t, surely, gardens)
			one += expectFrost(t, l, wants, sort, gardens)
			if len(gardens) > 1 {
				several++
			}
		}
	}
	// a test that sent little would say little
	if several < 100 || one < 100 {
		t.Errorf("%d sorts went to several gardens, %d to those of one frost", several, one)
	}
}

// behind returns the numbers that gardens of a list have in a search.
func behind(gardens []int) []int {
	var numbers []int
	for _, garden := range gardens {
		numbers = append(numbers, 1+garden)
	}
	return numbers
}

// expectSent checks where the sort stands if all of it takes.
func expectSent(t *testing.T, x api.LostSearch, gardens []int) {
	t.Helper()
	var all []int
	for number := range x.Gifts {
		all = append(all, number)
	}
	for _, year := range list(1, x.Lives-1) {
		if stands := runOf(t, x, all, year); !slices.Equal(stands, append(list(nursery), behind(gardens)...)) {
			t.Errorf("Run of %v, %v, %d = %v; want the nursery and %v", x, all, year, stands, behind(gardens))
		}
	}
	if stands := runOf(t, x, all, x.Lives); !slices.Equal(stands, behind(gardens)) {
		t.Errorf("Run of %v, %v, %d = %v; want %v", x, all, x.Lives, stands, behind(gardens))
	}
}

// expectLeft checks where the sort stands in the first year without the tree of the nursery, if all of it surely took.
func expectLeft(t *testing.T, x api.LostSearch, gardens []int) {
	t.Helper()
	sure, perhaps := sureOf(t, x, x.Lives)
	if !slices.Equal(sure, behind(gardens)) || len(perhaps) > 0 {
		t.Errorf("Sure of %v, %d = %v, %v; want %v", x, x.Lives, sure, perhaps, behind(gardens))
	}
	tour, e := lost.Tour(x, x.Lives)
	if len(tour) != min(1, len(gardens)) || (e == api.OK) != (len(gardens) > 0) {
		t.Errorf("Tour of %v, %d = %v, %d; the gardens are %v", x, x.Lives, tour, e, behind(gardens))
	}
}

// expectFrost checks that all gardens have one Frost just if scions.Lost says so, and that they are no more than scions.Alone. It returns 1 if they have one.
func expectFrost(t *testing.T, l api.ScionList, wants []int, sort int, gardens []int) int {
	t.Helper()
	if alone, e := scions.Alone(l, sort); len(gardens) > alone || e != api.OK {
		t.Errorf("Alone of %v, %d = %d, %d; the gardens of %v are %v", l, sort, alone, e, wants, gardens)
	}
	one := 0
	for frost := range api.MaxFrosts {
		taken, e := scions.Lost(l, wants, frost)
		spared := func(garden int) bool { return l.Gardens[garden].Frost != frost }
		all := len(gardens) > 0 && !slices.ContainsFunc(gardens, spared)
		if slices.Contains(taken, sort) != all || e != api.OK {
			t.Errorf("scions.Lost of %v, %v, %d = %v, %d; the gardens of %d are %v", l, wants, frost, taken, e, sort, gardens)
		}
		if all {
			one++
		}
	}
	return one
}
