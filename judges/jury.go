package judges

import (
	"slices"

	"pippin/api"
)

// jury has a valid show, or one whose only judge was taken away.
type jury struct {
	api.JudgeShow
}

// enter returns the jury of a valid show.
func enter(s api.JudgeShow) (jury, api.Errno) {
	if !validShow(s) {
		return jury{}, api.ErrJudge
	}
	return jury{s}, api.OK
}

// enterPlate does so if the plate that is asked for is one of the show.
func enterPlate(s api.JudgeShow, plate int) (jury, api.Errno) {
	j, e := enter(s)
	if e == api.OK && !within(plate, len(s.Plates)) {
		return jury{}, api.ErrArg
	}
	return j, e
}

// enterMark does so if the mark that is asked for is one of the show.
func enterMark(s api.JudgeShow, mark api.JudgeMark) (jury, api.Errno) {
	j, e := enter(s)
	if e == api.OK && !validMark(s, mark) {
		return jury{}, api.ErrArg
	}
	return j, e
}

// enterClosed does so if all points are in.
func enterClosed(s api.JudgeShow) (jury, api.Errno) {
	j, e := enter(s)
	if e == api.OK && j.isOpen() {
		return jury{}, api.ErrOpen
	}
	return j, e
}

// waits reports whether the points of a mark are not in yet.
func (j jury) waits(mark api.JudgeMark) bool {
	return j.Plates[mark.Plate].Points[mark.Judge] == api.JudgeOpen
}

// open yields all marks that are not in yet, those of the first plate first, and of each plate those of the first judge.
func (j jury) open(yield func(mark api.JudgeMark) bool) {
	for plate := range j.Plates {
		for judge := range j.Judges {
			mark := api.JudgeMark{Plate: plate, Judge: judge}
			if j.waits(mark) && !yield(mark) {
				return
			}
		}
	}
}

func (j jury) isOpen() bool {
	for range j.open {
		return true
	}
	return false
}

// with returns the jury with other points of a mark.
func (j jury) with(mark api.JudgeMark, points int) jury {
	j.Plates = slices.Clone(j.Plates)
	p := &j.Plates[mark.Plate]
	p.Points = slices.Clone(p.Points)
	p.Points[mark.Judge] = points
	return j
}

// without returns the jury without a judge.
func (j jury) without(judge int) jury {
	j.Judges--
	j.Drop = min(j.Drop, max(0, j.Judges-1)/2)
	j.Plates = slices.Clone(j.Plates)
	for plate := range j.Plates {
		p := &j.Plates[plate]
		p.Points = slices.Delete(slices.Clone(p.Points), judge, judge+1)
	}
	return j
}
