package gardens

import (
	"cmp"
	"slices"

	"pippin/api"
)

// free returns all gardens in which a graft of a sort can be made. There is no wood of a sort without trees.
func (l land) free(sort int) []int {
	home := l.home(sort)
	if len(home) == 0 {
		return nil
	}
	var gardens []int
	for garden := range l.Costs {
		if !slices.Contains(home, garden) {
			gardens = append(gardens, garden)
		}
	}
	return gardens
}

// grafted returns the land with grafts of a sort in some gardens.
func (l land) grafted(sort int, gardens []int) land {
	l.Trees = slices.Clone(l.Trees)
	for _, garden := range gardens {
		l.Trees = append(l.Trees, api.GardenTree{Sort: sort, Garden: garden})
	}
	return l
}

// price returns what grafts in some gardens cost.
func (l land) price(gardens []int) int {
	price := 0
	for _, garden := range gardens {
		price += l.Costs[garden]
	}
	return price
}

// plan returns the gardens of the cheapest grafts with which a sort is safe, if there are any.
func (l land) plan(sort int) (best []int, found bool) {
	for _, gardens := range parts(l.free(sort)) {
		cheaper := !found || l.price(gardens) < l.price(best)
		if cheaper && l.grafted(sort, gardens).safe(sort) {
			best, found = gardens, true
		}
	}
	return best, found
}

// grafts returns all grafts that can be made, those of the first sort first, and of one sort that in the first garden.
func (l land) grafts() []api.GardenTree {
	var grafts []api.GardenTree
	for sort := range l.Sorts {
		for _, garden := range l.free(sort) {
			grafts = append(grafts, api.GardenTree{Sort: sort, Garden: garden})
		}
	}
	return grafts
}

// taken returns how many sorts the losses take, together, with one graft more.
func (l land) taken(graft api.GardenTree) int {
	more := l.grafted(graft.Sort, []int{graft.Garden})
	taken := 0
	for loss := range l.Losses {
		taken += len(more.takenBy(loss))
	}
	return taken
}

// next returns the graft with which the losses take the fewest sorts, of several the cheapest one, if there is one.
func (l land) next() (api.GardenTree, bool) {
	grafts := l.grafts()
	if len(grafts) == 0 {
		return api.GardenTree{}, false
	}
	// of those that are alike the first one is kept
	return slices.MinFunc(grafts, func(a, b api.GardenTree) int {
		return cmp.Or(cmp.Compare(l.taken(a), l.taken(b)), cmp.Compare(l.Costs[a.Garden], l.Costs[b.Garden]))
	}), true
}
