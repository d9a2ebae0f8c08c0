package plates

import (
	"slices"

	"pippin/api"
)

// account is of all tastings in which the points fit and the same plates were changed before the same judges: these changes, and between what everything is.
type account struct {
	changes
	bounds
}

// accounts is of all truths of a case that has some.
type accounts []account

// changed returns whether a plate was changed.
func (all accounts) changed(plate int) int {
	many := 0
	for _, a := range all {
		if a.changes[plate] != unchanged {
			many++
		}
	}
	switch many {
	case 0:
		return api.Never
	case len(all):
		return api.Surely
	}
	return api.Perhaps
}

// named returns all plates that were changed in each truth.
func (all accounts) named() []int {
	var plates []int
	for plate := range api.MaxJudgePlates {
		if all.changed(plate) == api.Surely {
			plates = append(plates, plate)
		}
	}
	return plates
}

// when returns all judges before whom a plate was changed, ascending.
func (all accounts) when(plate int) []int {
	var judges []int
	for _, a := range all {
		if judge := a.changes[plate]; judge != unchanged {
			judges = append(judges, judge)
		}
	}
	slices.Sort(judges)
	return slices.Compact(judges)
}

// over returns between what something is in all accounts.
func (all accounts) over(in func(a account) api.Span) api.Span {
	span := in(all[0])
	for _, a := range all[1:] {
		span = join(span, in(a))
	}
	return span
}

func (all accounts) strict(judge int) api.Span {
	return all.over(func(a account) api.Span { return a.off[judge] })
}

func (all accounts) quality(plate, judge int) api.Span {
	return all.over(func(a account) api.Span { return a.bounds.quality[plate][a.which(plate, judge)] })
}

// left returns the show without the points that plates which are named can have got behind their change.
func (all accounts) left(s api.JudgeShow) api.JudgeShow {
	s.Plates = slices.Clone(s.Plates)
	for plate := range s.Plates {
		p := &s.Plates[plate]
		p.Points = slices.Clone(p.Points)
	}
	for _, plate := range all.named() {
		points := s.Plates[plate].Points
		for judge := all.when(plate)[0]; judge < len(points); judge++ {
			points[judge] = api.JudgeOpen
		}
	}
	return s
}
