package cases

import "pippin/api"

// Tasting is by how much each judge is off, and the plates that were tasted.
type Tasting struct {
	Off    []int
	Plates []Tasted
}

// Tasted is the qualities of a plate, and the judge before whom it was changed (0: it was not).
type Tasted struct {
	First, Second, Before int
}

// For returns the quality of a plate for a judge.
func (p Tasted) For(judge int) int {
	if p.Before > 0 && judge >= p.Before {
		return p.Second
	}
	return p.First
}

// PlateCase returns a valid case with so many judges, plates and marks that are not in yet. Its points fit, or do not, as it comes.
func (d *Dice) PlateCase(judges, plates, open int) api.PlateCase {
	slack := d.Below(api.MaxPlateSlack + 1)
	if d.Below(4) > 0 {
		slack = d.Below(3)
	}
	return api.PlateCase{
		Show:    d.JudgeShow(judges, plates, open),
		Off:     d.Below(api.MaxPlateOff + 1),
		Slack:   slack,
		Changes: d.Below(api.MaxPlateChanges + 1),
	}
}

// TastedCase returns such a case with another Off and Slack, and a tasting in which its points fit, with so many changed plates, as far as there can be as many.
func (d *Dice) TastedCase(judges, plates, open, off, slack, changed int) (api.PlateCase, Tasting) {
	x := d.PlateCase(judges, plates, open)
	x.Off, x.Slack = off, slack
	t := d.tasting(x, changed)
	for plate, tasted := range t.Plates {
		for judge, points := range x.Show.Plates[plate].Points {
			if points == api.JudgeOpen {
				continue
			}
			// all qualities and judges are thrown so that they are points together; what is cut off is slack
			points = tasted.For(judge) + t.Off[judge] + d.Below(2*slack+1) - slack
			x.Show.Plates[plate].Points[judge] = max(0, min(points, api.MaxJudgePoints))
		}
	}
	return x, t
}

// tasting returns one of a case, in which each quality and the number by which each judge is off are from 0 to MaxJudgePoints together.
func (d *Dice) tasting(x api.PlateCase, changed int) Tasting {
	var t Tasting
	wide := d.Below(1 + d.Below(min(2*x.Off, api.MaxJudgePoints)+1))
	least := d.Below(2*x.Off+1-wide) - x.Off
	for range x.Show.Judges {
		t.Off = append(t.Off, least+d.Below(wide+1))
	}
	worst := max(0, -least)
	many := min(api.MaxJudgePoints, api.MaxJudgePoints-least-wide) - worst + 1
	for range x.Show.Plates {
		t.Plates = append(t.Plates, Tasted{First: worst + d.Below(many), Second: worst + d.Below(many)})
	}
	for at, plate := range d.Shuffled(len(t.Plates)) {
		if at < changed && x.Show.Judges > 1 {
			t.Plates[plate].Before = 1 + d.Below(x.Show.Judges-1)
		}
	}
	return t
}
