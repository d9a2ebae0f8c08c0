package plates_test

import (
	"math"
	"reflect"
	"slices"
	"testing"

	"pippin/api"
	"pippin/cases"
	"pippin/plates"
)

// list keeps the tables below short.
func list(numbers ...int) []int { return numbers }

func span(low, high int) api.Span { return api.Span{Low: low, High: high} }

func plate(size int, points ...int) api.JudgePlate {
	return api.JudgePlate{Size: size, Points: points}
}

// table returns a case with one prize, with as many judges as the first plate has points.
func table(off, slack, changes int, all ...api.JudgePlate) api.PlateCase {
	return api.PlateCase{Show: api.JudgeShow{Judges: len(all[0].Points), Prizes: 1, Plates: all}, Off: off, Slack: slack, Changes: changes}
}

// bare returns a case without plates.
func bare(judges, off, slack, changes int) api.PlateCase {
	return api.PlateCase{Show: api.JudgeShow{Judges: judges}, Off: off, Slack: slack, Changes: changes}
}

// caseX is X of the chapter's examples, with so many Changes: with 0 it is Y.
func caseX(slack, changes int) api.PlateCase {
	return table(2, slack, changes, plate(50, 10, 11, 9, 10), plate(60, 12, 13, 11, 12), plate(40, 8, 9, 15, 16))
}

// either is explained by a change of each of its plates.
func either(changes int) api.PlateCase {
	return table(20, 0, changes, plate(1, 5, 9), plate(2, 9, 5))
}

// both is explained by a change of both plates alone, each before some judges.
func both(changes int) api.PlateCase {
	return table(0, 0, changes, plate(1, 5, -1, 6, 6), plate(2, 3, 3, 9, 9), plate(3, 7, 7, -1, 7))
}

// three would need three changes.
func three() api.PlateCase {
	return table(0, 0, 2, plate(1, 1, 2), plate(2, 3, 4), plate(3, 5, 6))
}

// twice would need a plate to be changed twice.
func twice() api.PlateCase {
	return table(0, 0, 2, plate(1, 1, 2, 3))
}

// full has as much of everything as there can be.
func full() api.PlateCase {
	x := table(20, 9, 2, slices.Repeat([]api.JudgePlate{plate(999, 20, 0, -1, 20, 0)}, 6)...)
	x.Show.Drop, x.Show.Prizes = 2, 6
	return x
}

// blank has no points yet.
func blank() api.PlateCase {
	return table(20, 0, 2, slices.Repeat([]api.JudgePlate{plate(7, -1, -1, -1, -1, -1)}, 6)...)
}

// with returns a case of which something was changed, and that shares no memory with the given one.
func with(x api.PlateCase, change func(x *api.PlateCase)) api.PlateCase {
	x.Show = cases.CopyJudgeShow(x.Show)
	change(&x)
	return x
}

// asked is the plate and the judge that are asked for.
type asked struct {
	plate, judge int
}

// calls calls all functions.
func calls(x api.PlateCase, a asked) []cases.Outcome {
	fits, e1 := plates.Fits(x)
	fewest, e2 := plates.Fewest(x)
	slackest, e3 := plates.Slackest(x)
	changed, e4 := plates.Changed(x, a.plate)
	named, e5 := plates.Named(x)
	when, e6 := plates.When(x, a.plate)
	strict, e7 := plates.Strict(x, a.judge)
	quality, e8 := plates.Quality(x, a.plate, a.judge)
	left, e9 := plates.Left(x)
	get, miss, e10 := plates.Prizes(x)
	one := 0
	if fits {
		one = 1
	}
	return []cases.Outcome{
		cases.Got("Check", 0, plates.Check(x)), cases.Got("Fits", one, e1), cases.Got("Fewest", fewest, e2), cases.Got("Slackest", slackest, e3),
		cases.Got("Changed", changed, e4), cases.Got("Named", len(named), e5), cases.Got("When", cases.Sum(when), e6), cases.Got("Strict", math.MaxInt8*strict.High-strict.Low, e7),
		cases.Got("Quality", math.MaxInt8*quality.High+quality.Low, e8), cases.Got("Left", left.Judges+left.Drop+left.Prizes+len(left.Plates), e9), cases.Got("Prizes", len(get)+len(miss), e10),
	}
}

// P9.1: what is valid, up to each limit.
func TestCheckTakesValid(t *testing.T) {
	for name, x := range map[string]api.PlateCase{
		"no plates":        bare(1, 0, 0, 0),
		"X":                caseX(0, 1),
		"Y":                caseX(0, 0),
		"full":             full(),
		"blank":            blank(),
		"three":            three(),
		"the least of all": table(0, 0, 0, plate(0, 0)),
		"the most of all":  table(20, 9, 2, slices.Repeat([]api.JudgePlate{plate(999, 20, 20, 20, 20, 20)}, 6)...),
		"the greatest Off": bare(5, api.MaxPlateOff, 0, 0),
		"Slack":            bare(5, 0, api.MaxPlateSlack, 0),
		"Changes":          bare(1, 0, 0, api.MaxPlateChanges),
	} {
		if e := plates.Check(x); e != api.OK {
			t.Errorf("%s: Check = %d", name, e)
		}
	}
}

// anyAsked are plates and judges, some of which no case has.
func anyAsked() []asked {
	return []asked{{0, 0}, {2, 1}, {-1, 0}, {0, -1}, {99, 99}, {math.MinInt, math.MaxInt}}
}

// P9.1, R1, R2: ErrJudge comes before all others, also before ErrPlate.
func TestWrongShows(t *testing.T) {
	of := func(change func(s *api.JudgeShow)) api.PlateCase {
		return with(caseX(0, 1), func(x *api.PlateCase) { change(&x.Show) })
	}
	for name, x := range map[string]api.PlateCase{
		"nothing":          {},
		"no judges":        of(func(s *api.JudgeShow) { s.Judges = 0 }),
		"fewer judges":     of(func(s *api.JudgeShow) { s.Judges = 3 }),
		"more judges":      of(func(s *api.JudgeShow) { s.Judges = 5 }),
		"judges far above": of(func(s *api.JudgeShow) { s.Judges = math.MaxInt }),
		"Drop below":       of(func(s *api.JudgeShow) { s.Drop = -1 }),
		"Drop above":       of(func(s *api.JudgeShow) { s.Drop = 2 }),
		"prizes below":     of(func(s *api.JudgeShow) { s.Prizes = -1 }),
		"prizes above":     of(func(s *api.JudgeShow) { s.Prizes = api.MaxJudgePrizes + 1 }),
		"too many plates":  of(func(s *api.JudgeShow) { s.Plates = slices.Repeat(s.Plates, 3) }),
		"Size above":       of(func(s *api.JudgeShow) { s.Plates[2].Size = api.MaxJudgeSize + 1 }),
		"too few points":   of(func(s *api.JudgeShow) { s.Plates[1].Points = list(1, 2, 3) }),
		"points above":     of(func(s *api.JudgeShow) { s.Plates[0].Points[3] = api.MaxJudgePoints + 1 }),
		"points below":     of(func(s *api.JudgeShow) { s.Plates[0].Points[0] = -2 }),
	} {
		both := with(x, func(x *api.PlateCase) { x.Off, x.Slack, x.Changes = -1, math.MaxInt, 3 })
		for _, a := range anyAsked() {
			cases.ExpectError(t, name, calls(x, a), api.ErrJudge)
			cases.ExpectError(t, name+", and more", calls(both, a), api.ErrJudge)
		}
	}
}

// P9.1, R1, R2: ErrPlate comes before ErrArg, and before ErrNone, which a case without enough changes has.
func TestWrongCases(t *testing.T) {
	for _, n := range list(-1, math.MinInt, math.MaxInt, 99) {
		for name, change := range map[string]func(x *api.PlateCase){
			"Off":     func(x *api.PlateCase) { x.Off = n },
			"Slack":   func(x *api.PlateCase) { x.Slack = n },
			"Changes": func(x *api.PlateCase) { x.Changes = n },
		} {
			expectWrongCase(t, name, change)
		}
	}
	expectWrongCase(t, "Off above", func(x *api.PlateCase) { x.Off = api.MaxPlateOff + 1 })
	expectWrongCase(t, "Slack above", func(x *api.PlateCase) { x.Slack = api.MaxPlateSlack + 1 })
	expectWrongCase(t, "Changes above", func(x *api.PlateCase) { x.Changes = api.MaxPlateChanges + 1 })
}

func expectWrongCase(t *testing.T, name string, change func(x *api.PlateCase)) {
	t.Helper()
	for _, x := range []api.PlateCase{caseX(0, 1), caseX(0, 0), bare(1, 0, 0, 0), full()} {
		for _, a := range anyAsked() {
			cases.ExpectError(t, name, calls(with(x, change), a), api.ErrPlate)
		}
	}
}

// R1, R2: ErrArg comes before ErrNone, which the second case has.
func TestWrongArguments(t *testing.T) {
	for _, x := range []api.PlateCase{caseX(0, 1), caseX(0, 0)} {
		for _, n := range list(-1, 99, math.MinInt, math.MaxInt) {
			cases.ExpectError(t, "no plate", calls(x, asked{n, 0}), api.ErrArg, "Changed", "When", "Quality")
			cases.ExpectError(t, "no judge", calls(x, asked{0, n}), api.ErrArg, "Strict", "Quality")
			cases.ExpectError(t, "neither", calls(x, asked{n, n}), api.ErrArg, "Changed", "When", "Strict", "Quality")
		}
		cases.ExpectError(t, "a plate too many", calls(x, asked{3, 3}), api.ErrArg, "Changed", "When", "Quality")
		cases.ExpectError(t, "a judge too many", calls(x, asked{2, 4}), api.ErrArg, "Strict", "Quality")
	}
	cases.ExpectError(t, "no plates", calls(bare(5, 0, 0, 0), asked{0, 0}), api.ErrArg, "Changed", "When", "Quality")
	cases.ExpectError(t, "six plates", calls(full(), asked{6, 4}), api.ErrArg, "Changed", "When", "Quality")
	cases.ExpectError(t, "five judges", calls(full(), asked{5, 5}), api.ErrArg, "Strict", "Quality")
}

// P9.5 to P9.11: ErrNone if there is no truth, since there are fewer Changes than are needed, or no tasting at all.
func TestNoTruth(t *testing.T) {
	for name, x := range map[string]api.PlateCase{
		"Y":            caseX(0, 0),
		"either":       either(0),
		"both":         both(1),
		"three":        three(),
		"twice":        twice(),
		"out of reach": table(0, 0, 2, plate(1, 0, 9, 0, 9, 0)),
	} {
		cases.ExpectError(t, name, calls(x, asked{0, 0}), api.ErrNone, "Changed", "Named", "When", "Strict", "Quality", "Left", "Prizes")
	}
}

// P9.2 to P9.4; fewest and slackest below 0 are none.
func TestFewestAndSlackest(t *testing.T) {
	for name, x := range map[string]struct {
		x                api.PlateCase
		fewest, slackest int
	}{
		"X":                             {caseX(0, 1), 1, 2},
		"Y":                             {caseX(0, 0), 1, 2},
		"X, Slack 1":                    {caseX(1, 1), 1, 2},
		"X, Slack 2":                    {caseX(2, 1), 0, 2},
		"no plates":                     {bare(3, 0, 0, 0), 0, 0},
		"blank":                         {blank(), 0, 0},
		"full":                          {full(), 0, 0},
		"either":                        {either(2), 1, 2},
		"both":                          {both(0), 2, 3},
		"three":                         {three(), -1, 1},
		"twice":                         {twice(), -1, 1},
		"one judge":                     {table(0, 0, 0, plate(0, 20), plate(0, 0)), 0, 0},
		"all agree":                     {table(0, 0, 0, plate(0, 5, 5, 5)), 0, 0},
		"one change":                    {table(0, 0, 0, plate(0, 5, 5, 6)), 1, 1},
		"it is off":                     {table(1, 0, 0, plate(0, 5, 5, 6)), 0, 0},
		"there and back":                {table(0, 0, 2, plate(0, 5, 6, 5)), -1, 1},
		"off, there and back":           {table(1, 0, 2, plate(0, 5, 6, 5)), 0, 0},
		"slack by two":                  {table(0, 2, 0, plate(0, 5, 9, 5)), 0, 2},
		"slack by one too few":          {table(0, 1, 0, plate(0, 5, 5, 9)), 1, 2},
		"no slack is enough":            {table(0, 0, 0, plate(0, 0, 19)), 1, -1},
		"the most slack":                {table(0, 9, 0, plate(0, 0, 18)), 0, 9},
		"off by one, the most slack":    {table(1, 9, 0, plate(0, 0, 20)), 0, 9},
		"off both ways":                 {table(10, 0, 0, plate(0, 0, 20)), 0, 0},
		"off both ways, one too little": {table(9, 0, 0, plate(0, 0, 20)), 1, 1},
		"not below quality 0":           {table(20, 0, 0, plate(0, 0, 0), plate(0, 20, 20)), 0, 0},
		"all off by 20":                 {table(20, 0, 0, plate(0, 20, 0)), 0, 0},
		"off, but one quality too much": {table(20, 0, 0, plate(0, 20, 0), plate(0, 20, 1)), 1, 1},
		// by the first plate the judges differ by 20; neither is off by more, since no quality is below 0 or above 20
		"the qualities end":        {table(20, 0, 0, plate(0, 20, 0), plate(0, 19, -1), plate(0, -1, 20)), 1, 1},
		"the qualities are enough": {table(20, 0, 0, plate(0, 20, 0), plate(0, 20, -1), plate(0, -1, 20)), 0, 0},
		"what waits says nothing":  {table(0, 0, 0, plate(0, 5, -1, 5), plate(0, -1, 9, -1)), 0, 0},
		"before or behind it":      {table(0, 0, 0, plate(0, 5, -1, 6)), 1, 1},
		"one change for each":      {table(0, 0, 0, plate(0, 5, 6), plate(0, 9, 8)), 2, 1},
	} {
		fits, e := plates.Fits(x.x)
		if fits != (x.fewest == 0) || e != api.OK {
			t.Errorf("%s: Fits = %t, %d", name, fits, e)
		}
		expectNumber(t, name+": Fewest", plates.Fewest, x.x, x.fewest)
		expectNumber(t, name+": Slackest", plates.Slackest, x.x, x.slackest)
	}
}

// expectNumber checks Fewest or Slackest, of which there is none if it is below 0.
func expectNumber(t *testing.T, name string, call func(x api.PlateCase) (int, api.Errno), x api.PlateCase, want int) {
	t.Helper()
	number, e := call(x)
	if want >= 0 && (number != want || e != api.OK) || want < 0 && (number != 0 || e != api.ErrNone) {
		t.Errorf("%s of %v = %d, %d; want %d", name, x, number, e, want)
	}
}

// P9.3, P9.4: neither Changes nor, for Slackest, Slack matters.
func TestWhateverChangesIs(t *testing.T) {
	for changes := range api.MaxPlateChanges + 1 {
		expectNumber(t, "Fewest", plates.Fewest, caseX(0, changes), 1)
		expectNumber(t, "Fewest", plates.Fewest, both(changes), 2)
		for slack := range api.MaxPlateSlack + 1 {
			expectNumber(t, "Slackest", plates.Slackest, caseX(slack, changes), 2)
		}
	}
}

// P9.5 to P9.7: of each plate.
func TestChanged(t *testing.T) {
	for name, x := range map[string]struct {
		x       api.PlateCase
		changed []int
		when    [][]int
		named   []int
	}{
		"X":                   {caseX(0, 1), list(2, 2, 1), [][]int{nil, nil, {2}}, list(2)},
		"X, more Changes":     {caseX(0, 2), list(2, 2, 1), [][]int{nil, nil, {2}}, list(2)},
		"X, Slack 1":          {caseX(1, 1), list(2, 2, 1), [][]int{nil, nil, {2}}, list(2)},
		"X, Slack 2":          {caseX(2, 1), list(2, 2, 2), [][]int{nil, nil, nil}, nil},
		"no plates":           {bare(3, 0, 0, 2), nil, nil, nil},
		"blank":               {blank(), slices.Repeat(list(2), 6), make([][]int, 6), nil},
		"either":              {either(1), list(3, 3), [][]int{{1}, {1}}, nil},
		"both":                {both(2), list(1, 1, 2), [][]int{{1, 2}, {2}, nil}, list(0, 1)},
		"before each judge":   {table(0, 0, 1, plate(0, 5, -1, -1, -1, 6)), list(1), [][]int{{1, 2, 3, 4}}, list(0)},
		"before the last one": {table(0, 0, 1, plate(0, 5, 5, 5, 5, 6)), list(1), [][]int{{4}}, list(0)},
		// with the slack the points of the judge 1 are those of either quality
		"slack between both": {table(0, 1, 1, plate(0, 5, 6, 8)), list(1), [][]int{{1, 2}}, list(0)},
		// the judge 2 is not as strict, unless both other plates were changed
		"two against one":    {table(20, 0, 2, plate(0, 5, 5, 7), plate(0, 6, 6, 8), plate(0, 7, 7, 7)), list(2, 2, 1), [][]int{nil, nil, {2}}, list(2)},
		"two against two":    {table(20, 0, 2, plate(0, 5, 7), plate(0, 6, 8), plate(0, 7, 7), plate(0, 8, 8)), slices.Repeat(list(3), 4), [][]int{{1}, {1}, {1}, {1}}, nil},
		"one and one of two": {table(20, 0, 2, plate(0, 5, 7), plate(0, 7, 7), plate(0, 3, 9)), list(3, 3, 3), [][]int{{1}, {1}, {1}}, nil},
		"one before each":    {table(0, 0, 2, plate(0, 1, 2, 2), plate(0, 1, 1, 2)), list(1, 1), [][]int{{1}, {2}}, list(0, 1)},
	} {
		for plate, want := range x.changed {
			changed, e := plates.Changed(x.x, plate)
			if changed != want || e != api.OK {
				t.Errorf("%s: Changed of %d = %d, %d; want %d", name, plate, changed, e, want)
			}
			when, e := plates.When(x.x, plate)
			if !slices.Equal(when, x.when[plate]) || (e == api.OK) != (len(when) > 0) || e != api.OK && e != api.ErrNone {
				t.Errorf("%s: When of %d = %v, %d; want %v", name, plate, when, e, x.when[plate])
			}
		}
		if named, e := plates.Named(x.x); !slices.Equal(named, x.named) || e != api.OK {
			t.Errorf("%s: Named = %v, %d; want %v", name, named, e, x.named)
		}
	}
}

// P9.8, P9.9: Strict of each judge, and Quality of each plate for each judge.
func TestStrictAndQuality(t *testing.T) {
	same := func(s api.Span, many int) []api.Span { return slices.Repeat([]api.Span{s}, many) }
	for name, x := range map[string]struct {
		x       api.PlateCase
		strict  []api.Span
		quality [][]api.Span
	}{
		"X":         {caseX(0, 1), []api.Span{span(-1, 1), span(0, 2), span(-2, 0), span(-1, 1)}, [][]api.Span{same(span(9, 11), 4), same(span(11, 13), 4), {span(7, 9), span(7, 9), span(15, 17), span(15, 17)}}},
		"no plates": {bare(2, 7, 3, 1), same(span(-7, 7), 2), nil},
		"blank":     {blank(), same(span(-20, 20), 5), slices.Repeat([][]api.Span{same(span(0, 20), 5)}, 6)},
		"either":    {either(1), same(span(-11, 5), 2), [][]api.Span{{span(0, 16), span(4, 20)}, {span(4, 20), span(0, 16)}}},
		"both":      {both(2), same(span(0, 0), 4), [][]api.Span{{span(5, 5), span(5, 6), span(6, 6), span(6, 6)}, {span(3, 3), span(3, 3), span(9, 9), span(9, 9)}, same(span(7, 7), 4)}},
		"slack":     {table(0, 1, 0, plate(0, 5, 6)), same(span(0, 0), 2), [][]api.Span{same(span(5, 6), 2)}},
		"the least": {table(5, 0, 0, plate(0, 2)), same(span(-5, 2), 1), [][]api.Span{same(span(0, 7), 1)}},
		"the most":  {table(5, 0, 0, plate(0, 18)), same(span(-2, 5), 1), [][]api.Span{same(span(13, 20), 1)}},
		"by another plate, by another judge": {
			table(20, 0, 0, plate(0, 3, 1, -1), plate(0, -1, 20, 19)), []api.Span{span(2, 3), span(0, 1), span(-1, 0)}, [][]api.Span{same(span(0, 1), 3), same(span(19, 20), 3)},
		},
		"a judge without points":   {table(4, 0, 0, plate(0, 9, -1)), same(span(-4, 4), 2), [][]api.Span{same(span(5, 13), 2)}},
		"a plate without points":   {table(4, 0, 0, plate(0, 9, 9), plate(0, -1, -1)), same(span(-4, 4), 2), [][]api.Span{same(span(5, 13), 2), same(span(0, 20), 2)}},
		"a quality without points": {table(0, 0, 1, plate(0, 9, -1, 8)), same(span(0, 0), 3), [][]api.Span{{span(9, 9), span(8, 9), span(8, 8)}}},
	} {
		for judge, want := range x.strict {
			if strict, e := plates.Strict(x.x, judge); strict != want || e != api.OK {
				t.Errorf("%s: Strict of %d = %v, %d; want %v", name, judge, strict, e, want)
			}
		}
		for plate, all := range x.quality {
			for judge, want := range all {
				if quality, e := plates.Quality(x.x, plate, judge); quality != want || e != api.OK {
					t.Errorf("%s: Quality of %d, %d = %v, %d; want %v", name, plate, judge, quality, e, want)
				}
			}
		}
	}
}

// P9.10, P9.11
func TestLeftAndPrizes(t *testing.T) {
	for name, x := range map[string]struct {
		x         api.PlateCase
		points    [][]int
		get, miss []int
	}{
		"X":          {caseX(0, 1), [][]int{{10, 11, 9, 10}, {12, 13, 11, 12}, {8, 9, -1, -1}}, nil, list(0)},
		"X, Slack 2": {caseX(2, 1), [][]int{{10, 11, 9, 10}, {12, 13, 11, 12}, {8, 9, 15, 16}}, list(1), list(0, 2)},
		"no plates":  {bare(1, 0, 0, 0), nil, nil, nil},
		"either":     {either(1), [][]int{{5, 9}, {9, 5}}, list(1), list(0)},
		"both":       {both(2), [][]int{{5, -1, -1, -1}, {3, 3, -1, -1}, {7, 7, -1, 7}}, nil, nil},
		"full":       {full(), slices.Repeat([][]int{{20, 0, -1, 20, 0}}, 6), list(0, 1, 2, 3, 4, 5), nil},
		"the first of those before whom": {
			table(0, 0, 1, plate(1, 0, -1, 1), plate(2, 20, 20, 20)), [][]int{{0, -1, -1}, {20, 20, 20}}, list(1), list(0),
		},
	} {
		want := with(x.x, func(x *api.PlateCase) {}).Show
		for plate, points := range x.points {
			want.Plates[plate].Points = points
		}
		if left, e := plates.Left(x.x); !reflect.DeepEqual(left, want) || e != api.OK {
			t.Errorf("%s: Left = %v, %d; want %v", name, left, e, want)
		}
		if get, miss, e := plates.Prizes(x.x); !slices.Equal(get, x.get) || !slices.Equal(miss, x.miss) || e != api.OK {
			t.Errorf("%s: Prizes = %v, %v, %d; want %v, %v", name, get, miss, e, x.get, x.miss)
		}
	}
}
