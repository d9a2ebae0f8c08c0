package cases

import (
	"slices"

	"pippin/api"
)

// JudgeShow returns a valid show with so many judges and plates, and as many marks that are not in yet, as far as there can be as many. The points and sizes of most shows are close together.
func (d *Dice) JudgeShow(judges, plates, open int) api.JudgeShow {
	s := api.JudgeShow{Judges: judges, Drop: d.Below((judges + 1) / 2), Prizes: d.Below(min(plates, api.MaxJudgePrizes-1) + 2)}
	least, sizes := d.Below(api.MaxJudgePoints+1), 1+d.Below(3)
	many := 1 + d.Below(api.MaxJudgePoints+1-least)
	for range plates {
		p := api.JudgePlate{Size: d.Below(sizes) * api.MaxJudgeSize / 2}
		for range judges {
			p.Points = append(p.Points, least+d.Below(many))
		}
		s.Plates = append(s.Plates, p)
	}
	places := d.Shuffled(judges * plates)
	for _, place := range places[:min(open, len(places))] {
		s.Plates[place/judges].Points[place%judges] = api.JudgeOpen
	}
	return s
}

// CopyJudgeShow returns a show that shares no memory with the given one.
func CopyJudgeShow(s api.JudgeShow) api.JudgeShow {
	s.Plates = slices.Clone(s.Plates)
	for plate := range s.Plates {
		s.Plates[plate].Points = slices.Clone(s.Plates[plate].Points)
	}
	return s
}

// SpoiltJudgeShow returns a show of which one thing, or all, is as it comes.
func (d *Dice) SpoiltJudgeShow(s api.JudgeShow) api.JudgeShow {
	what := d.Below(6)
	if what == 0 || what == 5 {
		s.Judges = d.Odd()
	}
	if what == 1 || what == 5 {
		s.Drop = d.Odd()
	}
	if what == 2 || what == 5 {
		s.Prizes = d.Odd()
	}
	if what == 3 || what == 5 {
		s.Plates = nil
		for range d.Below(9) {
			s.Plates = append(s.Plates, api.JudgePlate{Size: d.Odd(), Points: d.Odds()})
		}
	}
	if what == 4 && len(s.Plates) > 0 {
		s.Plates[d.Below(len(s.Plates))].Points[d.Below(s.Judges)] = d.Odd()
	}
	return s
}

// OpenMarks returns all marks of a show that are not in yet, those of the first plate first.
func OpenMarks(s api.JudgeShow) []api.JudgeMark {
	var marks []api.JudgeMark
	for plate, p := range s.Plates {
		for judge, points := range p.Points {
			if points == api.JudgeOpen {
				marks = append(marks, api.JudgeMark{Plate: plate, Judge: judge})
			}
		}
	}
	return marks
}
