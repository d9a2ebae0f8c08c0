package cases

import (
	"slices"

	"pippin/api"
)

// GardenBook returns a valid book with so many sorts, gardens and losses (without gardens there are no losses). In most books some gardens cost the same.
func (d *Dice) GardenBook(sorts, gardens, losses int) api.GardenBook {
	b := api.GardenBook{Sorts: sorts}
	most := []int{2, 5, api.MaxGardenCost}[d.Below(3)]
	for range gardens {
		b.Costs = append(b.Costs, 1+d.Below(most))
	}
	rare := 1 + d.Below(5)
	for sort := range sorts {
		for garden := range gardens {
			if d.Below(rare+1) == 0 {
				b.Trees = append(b.Trees, api.GardenTree{Sort: sort, Garden: garden})
			}
		}
	}
	if gardens > 0 {
		for range losses {
			b.Losses = append(b.Losses, d.some(gardens))
		}
	}
	return b
}

// CopyGardenBook returns a book that shares no memory with the given one.
func CopyGardenBook(b api.GardenBook) api.GardenBook {
	b.Costs, b.Trees, b.Losses = slices.Clone(b.Costs), slices.Clone(b.Trees), CopyRows(b.Losses)
	return b
}
