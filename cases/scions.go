package cases

import (
	"slices"

	"pippin/api"
)

// ScionList returns a valid list with so many sorts, gardens and wants, as far as there can be as many.
func (d *Dice) ScionList(sorts, gardens, wants int) api.ScionList {
	var l api.ScionList
	for range sorts {
		l.Scions = append(l.Scions, d.Below(api.MaxScions+1))
	}
	frosts, places := 1+d.Below(api.MaxFrosts), 2+d.Below(api.MaxScionPlaces)
	for range gardens {
		l.Gardens = append(l.Gardens, api.ScionGarden{Places: d.Below(places), Frost: d.Below(frosts)})
	}
	pairs := d.Shuffled(sorts * gardens)
	for _, pair := range pairs[:min(wants, len(pairs))] {
		l.Wants = append(l.Wants, api.ScionWant{Garden: pair % gardens, Sort: pair / gardens})
	}
	return l
}

// FittingGift returns some wants of a list whose gift fits, which are taken as they come; fits says whether one does.
func (d *Dice) FittingGift(l api.ScionList, fits func(gift []int) bool) []int {
	var gift []int
	for _, want := range d.Shuffled(len(l.Wants)) {
		longer := slices.Sorted(slices.Values(append(slices.Clone(gift), want)))
		if fits(longer) && d.Below(6) > 0 {
			gift = longer
		}
	}
	return gift
}
