package gardens_test

import (
	"slices"
	"testing"

	"pippin/api"
	"pippin/cases"
	"pippin/scions"
)

// grown returns the book in which the scions of a gift became trees, and the gardens of each frost can be lost together, and the frost of each of its losses.
func grown(d *cases.Dice, l api.ScionList, gift []int) (b api.GardenBook, frosts []int) {
	b = d.GardenBook(len(l.Scions), len(l.Gardens), 0)
	b.Trees = nil
	for _, number := range gift {
		w := l.Wants[number]
		b = planted(b, w.Sort, list(w.Garden))
	}
	for frost := range api.MaxFrosts {
		var loss []int
		for garden, g := range l.Gardens {
			if g.Frost == frost {
				loss = append(loss, garden)
			}
		}
		// a frost that no garden has is no loss
		if len(loss) > 0 {
			b.Losses, frosts = append(b.Losses, loss), append(frosts, frost)
		}
	}
	return b, frosts
}

// P0.13 (the grafts that took)
func TestGraftsThatTook(t *testing.T) {
	d := cases.Dice(13)
	lost, twice := 0, 0
	for range 1000 {
		l := d.ScionList(1+d.Below(api.MaxScionSorts), 1+d.Below(api.MaxScionGardens), d.Below(api.MaxScionWants+1))
		gift := d.FittingGift(l, func(gift []int) bool {
			fits, e := scions.Fits(l, gift)
			return fits && e == api.OK
		})
		often := make([]int, len(l.Scions))
		for _, number := range gift {
			often[l.Wants[number].Sort]++
		}
		b, frosts := grown(&d, l, gift)
		for loss, frost := range frosts {
			lost += expectFrost(t, l, gift, frost, often, takesIn(t, b, loss))
		}
		safe := safeIn(t, b)
		for sort, many := range often {
			if many < 2 {
				continue
			}
			twice++
			if !slices.Contains(safe, sort) || costIn(t, b, sort) != 0 {
				t.Errorf("%v, %v: the sort %d is given %d times, but Safe of %v is %v", l, gift, sort, many, b, safe)
			}
		}
	}
	// a test in which little was given would say little
	if lost < 100 || twice < 100 {
		t.Errorf("%d sorts are lost, %d are given twice", lost, twice)
	}
}

// expectFrost checks that a loss takes just the sorts that a frost takes, and those that were not given; it returns how many sorts the frost takes.
func expectFrost(t *testing.T, l api.ScionList, gift []int, frost int, often, takes []int) int {
	t.Helper()
	lost, e := scions.Lost(l, gift, frost)
	if e != api.OK {
		t.Fatalf("scions.Lost of %v, %v, %d: error %d", l, gift, frost, e)
	}
	var want []int
	for sort, many := range often {
		if many == 0 || slices.Contains(lost, sort) {
			want = append(want, sort)
		}
	}
	if !slices.Equal(takes, want) {
		t.Errorf("%v, %v: Takes of the frost %d is %v; scions.Lost is %v, and the sorts are given so often: %v", l, gift, frost, takes, lost, often)
	}
	return len(lost)
}
