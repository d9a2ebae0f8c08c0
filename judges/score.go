package judges

import (
	"cmp"
	"slices"

	"pippin/api"
)

// score is what plates are compared by.
type score struct {
	total, size int
}

// compare returns a number above 0 if a score is better than another one, and one below 0 if the other one is.
func (s score) compare(other score) int {
	return cmp.Or(cmp.Compare(s.total, other.total), cmp.Compare(s.size, other.size))
}

func (s score) better(other score) bool {
	return s.compare(other) > 0
}

// total returns the total of a plate if each mark of it that is not in yet gets so many points.
func (j jury) total(plate, open int) int {
	points := slices.Clone(j.Plates[plate].Points)
	for judge, given := range points {
		if given == api.JudgeOpen {
			points[judge] = open
		}
	}
	slices.Sort(points)
	total := 0
	for _, given := range points[j.Drop : len(points)-j.Drop] {
		total += given
	}
	return total
}

// totals returns between what the total of a plate is. No total is less with more points.
func (j jury) totals(plate int) api.Span {
	return api.Span{Low: j.total(plate, 0), High: j.total(plate, api.MaxJudgePoints)}
}

// least returns the worst score that a plate can get.
func (j jury) least(plate int) score {
	return score{j.totals(plate).Low, j.Plates[plate].Size}
}

// most returns the best score that a plate can get.
func (j jury) most(plate int) score {
	return score{j.totals(plate).High, j.Plates[plate].Size}
}

// known returns what is known of something that is so in each judging, or in some.
func known(each, some bool) int {
	switch {
	case each:
		return api.Surely
	case some:
		return api.Perhaps
	}
	return api.Never
}

// better returns whether a plate is better than another one. No mark is one of both, so there is a judging with any score of the one and any of the other.
func (j jury) better(plate, other int) int {
	each := j.least(plate).better(j.most(other))
	some := j.most(plate).better(j.least(other))
	return known(each, some)
}

// place returns the place of a plate with a score if the other ones get the given scores.
func (j jury) place(plate int, s score, gets func(other int) score) int {
	place := 1
	for other := range j.Plates {
		if other != plate && gets(other).better(s) {
			place++
		}
	}
	return place
}

// places returns between what the place of a plate is.
func (j jury) places(plate int) api.Span {
	return api.Span{Low: j.place(plate, j.most(plate), j.least), High: j.place(plate, j.least(plate), j.most)}
}

// rank returns all plates by their places, if all points are in.
func (j jury) rank() []int {
	var plates []int
	for plate := range j.Plates {
		plates = append(plates, plate)
	}
	// the sort keeps plates with the same place in the order of their numbers
	slices.SortStableFunc(plates, func(a, b int) int { return j.most(b).compare(j.most(a)) })
	return plates
}
