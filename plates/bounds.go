package plates

import "pippin/api"

// the qualities of a plate: the second one is that which it has behind its change
const (
	first = iota
	second
	qualities
)

// bounds is between what everything is in tastings: by how much each judge is off, and the qualities of each plate.
type bounds struct {
	off     [api.MaxJudges]api.Span
	quality [api.MaxJudgePlates][qualities]api.Span
}

// meet returns what is in both of two spans. Its Low is above its High if that is nothing.
func meet(a, b api.Span) api.Span {
	return api.Span{Low: max(a.Low, b.Low), High: min(a.High, b.High)}
}

// join returns the least span that both of two spans are in.
func join(a, b api.Span) api.Span {
	return api.Span{Low: min(a.Low, b.Low), High: max(a.High, b.High)}
}

// rest returns between what a number is, if together with one of a part it is in a sum.
func rest(sum, part api.Span) api.Span {
	return api.Span{Low: sum.Low - part.High, High: sum.High - part.Low}
}

// widest returns between what everything is before any points are in.
func (t table) widest() bounds {
	var b bounds
	for judge := range b.off {
		b.off[judge] = api.Span{Low: -t.Off, High: t.Off}
	}
	for plate := range b.quality {
		for which := range qualities {
			b.quality[plate][which] = api.Span{Low: 0, High: api.MaxJudgePoints}
		}
	}
	return b
}

// narrowed returns what is left of bounds by each of the points that are in, if plates were changed so.
func (t table) narrowed(b bounds, c changes) bounds {
	for plate, p := range t.Show.Plates {
		for judge, points := range p.Points {
			if points == api.JudgeOpen {
				continue
			}
			sum := api.Span{Low: points - t.Slack, High: points + t.Slack}
			off, quality := &b.off[judge], &b.quality[plate][c.which(plate, judge)]
			*quality = meet(*quality, rest(sum, *off))
			*off = meet(*off, rest(sum, *quality))
		}
	}
	return b
}

// possible reports whether no bounds are empty.
func (b bounds) possible() bool {
	for _, off := range b.off {
		if off.Low > off.High {
			return false
		}
	}
	for _, of := range b.quality {
		for _, quality := range of {
			if quality.Low > quality.High {
				return false
			}
		}
	}
	return true
}

// fit returns between what everything is in all tastings in which plates were changed so and the points fit, if there are any.
func (t table) fit(c changes) (bounds, bool) {
	b := t.widest()
	for {
		narrower := t.narrowed(b, c)
		if !narrower.possible() {
			return bounds{}, false
		}
		// When nothing is narrower any more, the points fit with each quality at its lower end and each judge at the upper one, and the other way around: so there are tastings, and all ends are reached.
		if narrower == b {
			return b, true
		}
		b = narrower
	}
}
