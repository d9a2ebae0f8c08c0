package judges

import (
	"slices"

	"pippin/api"
)

// between reports whether a number is from a least one to a greatest one.
func between(number, least, greatest int) bool {
	return least <= number && number <= greatest
}

// within reports whether a number is one of so many things that are counted from 0.
func within(number, many int) bool {
	return 0 <= number && number < many
}

func validShow(s api.JudgeShow) bool {
	// the greatest Drop is written as a half, since twice a Drop that is far off is no int
	if !between(s.Judges, 1, api.MaxJudges) || !between(s.Drop, 0, (s.Judges-1)/2) || !between(s.Prizes, 0, api.MaxJudgePrizes) {
		return false
	}
	wrong := func(p api.JudgePlate) bool { return !validPlate(p, s.Judges) }
	return len(s.Plates) <= api.MaxJudgePlates && !slices.ContainsFunc(s.Plates, wrong)
}

// validPlate reports whether a plate is one of a show with so many judges.
func validPlate(p api.JudgePlate, judges int) bool {
	wrong := func(points int) bool { return points != api.JudgeOpen && !between(points, 0, api.MaxJudgePoints) }
	return between(p.Size, 0, api.MaxJudgeSize) && len(p.Points) == judges && !slices.ContainsFunc(p.Points, wrong)
}

// validMark reports whether a mark is one of a valid show.
func validMark(s api.JudgeShow, mark api.JudgeMark) bool {
	return within(mark.Plate, len(s.Plates)) && within(mark.Judge, s.Judges)
}
