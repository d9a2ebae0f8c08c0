package cases

import (
	"slices"

	"pippin/api"
)

// JudgeShow returns a valid show with so many judges and plates, and as many marks that are not in yet, as far as there can be as many. The points and sizes of most shows are close together.
func (d *Dice) JudgeShow(judges, plates, open int) api.JudgeShow {
	s := api.JudgeShow{Judges: judges, Drop: d.Below((judges + 1) / 2), Prizes: d.Below(min(plates, api.MaxJudgePrizes-1) + 2)}
	least, sizes := d.Below(api.MaxJudgePoints+1), 1+d.Below(3)
	many := 1 + d.Below(api.MaxJudgePoints+1-least)
	for range plates {
		p := api.JudgePlate{Size: d.Below(sizes) * api.MaxJudgeSize / 2}
		for range judges {
			p.Points = append(p.Points, least+d.Below(many))
		}
		s.Plates = append(s.Plates, p)
	}
	places := d.Shuffled(judges * plates)
	for _, place := range places[:min(open, len(places))] {
		s.Plates[place/judges].Points[place%judges] = api.JudgeOpen
	}
	return s
}

// CopyJudgeShow returns a show that shares no memory with the given one.
func CopyJudgeShow(s api.JudgeShow) api.JudgeShow {
	s.Plates = slices.Clone(s.Plates)
	for plate := range s.Plates {
		s.Plates[plate].Points = slices.Clone(s.Plates[plate].Points)
	}
	return s
}
