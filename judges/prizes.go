package judges

import (
	"slices"

	"pippin/api"
)

// prize returns whether a plate gets a prize.
func (j jury) prize(plate int) int {
	places := j.places(plate)
	return known(places.High <= j.Prizes, places.Low <= j.Prizes)
}

// prizes returns all plates, ascending, by what is known of their prize.
func (j jury) prizes() map[int][]int {
	plates := map[int][]int{}
	for plate := range j.Plates {
		prize := j.prize(plate)
		plates[prize] = append(plates[prize], plate)
	}
	return plates
}

// needs returns the least total with which a plate surely gets a prize, if there is one.
func (j jury) needs(plate int) (int, bool) {
	totals, size := j.totals(plate), j.Plates[plate].Size
	// one more point of a mark makes a total greater by 1 at the most, so each total between both ends is one of a judging
	for total := totals.Low; total <= totals.High; total++ {
		if j.place(plate, score{total, size}, j.most) <= j.Prizes {
			return total, true
		}
	}
	return 0, false
}

// after returns of how many plates it is not known whether they get a prize, at the most, if the points of a mark come in.
func (j jury) after(mark api.JudgeMark) int {
	most := 0
	for points := range api.MaxJudgePoints + 1 {
		most = max(most, len(j.with(mark, points).prizes()[api.Perhaps]))
	}
	return most
}

// next returns the first of the marks that are not in yet with which the fewest plates are not known after it, if there is one.
func (j jury) next() (best api.JudgeMark, found bool) {
	least := 0
	for mark := range j.open {
		if after := j.after(mark); !found || after < least {
			best, least, found = mark, after, true
		}
	}
	return best, found
}

// agrees returns what tells of another jury whether the same plates get prizes by it, if all points are in.
func (j jury) agrees() func(other jury) bool {
	get := j.prizes()[api.Surely]
	return func(other jury) bool { return slices.Equal(other.prizes()[api.Surely], get) }
}

// room returns between what the points of a mark could be, with the same prizes, if all points are in.
func (j jury) room(mark api.JudgeMark) api.Span {
	agrees := j.agrees()
	now := j.Plates[mark.Plate].Points[mark.Judge]
	room := api.Span{Low: now, High: now}
	for points := range api.MaxJudgePoints + 1 {
		if agrees(j.with(mark, points)) {
			room = api.Span{Low: min(room.Low, points), High: max(room.High, points)}
		}
	}
	return room
}

// decide returns all judges without whom other plates get prizes, if all points are in.
func (j jury) decide() []int {
	agrees := j.agrees()
	var judges []int
	for judge := range j.Judges {
		if !agrees(j.without(judge)) {
			judges = append(judges, judge)
		}
	}
	return judges
}
