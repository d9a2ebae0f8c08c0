package judges_test

import (
	"math"
	"slices"
	"testing"

	"pippin/api"
	"pippin/cases"
	"pippin/judges"
)

// list keeps the tables below short.
func list(numbers ...int) []int { return numbers }

func span(low, high int) api.Span { return api.Span{Low: low, High: high} }

func mark(plate, judge int) api.JudgeMark { return api.JudgeMark{Plate: plate, Judge: judge} }

func plate(size int, points ...int) api.JudgePlate {
	return api.JudgePlate{Size: size, Points: points}
}

func show(judges, drop, prizes int, plates ...api.JudgePlate) api.JudgeShow {
	return api.JudgeShow{Judges: judges, Drop: drop, Prizes: prizes, Plates: plates}
}

// open and closed are J and K of the chapter's examples, with so many prizes.
func open(prizes int) api.JudgeShow {
	return show(3, 0, prizes, plate(50, 10, 12, -1), plate(60, 9, 11, 8), plate(40, 15, -1, -1))
}

func closed(drop, prizes int) api.JudgeShow {
	return show(3, drop, prizes, plate(50, 10, 12, 6), plate(60, 9, 11, 8), plate(40, 15, 5, 7))
}

// even has plates with the same total, the last one of which has smaller fruits.
func even(prizes int) api.JudgeShow {
	return show(2, 0, prizes, plate(50, 10, 10), plate(50, 12, 8), plate(40, 9, 11))
}

// late has a plate that waits for its only points.
func late(prizes int) api.JudgeShow {
	return show(1, 0, prizes, plate(10, 20), plate(20, -1), plate(30, 5))
}

// full has as much of everything as there can be.
func full() api.JudgeShow {
	return show(5, 2, 6, slices.Repeat([]api.JudgePlate{plate(999, 20, 0, -1, 20, -1)}, 6)...)
}

// blank has no points yet.
func blank() api.JudgeShow {
	s := show(5, 1, 3)
	for size := range api.MaxJudgePlates {
		s.Plates = append(s.Plates, plate(size, -1, -1, -1, -1, -1))
	}
	return s
}

// with returns a show of which something was changed, and that shares no memory with the given one.
func with(s api.JudgeShow, change func(s *api.JudgeShow)) api.JudgeShow {
	s = cases.CopyJudgeShow(s)
	change(&s)
	return s
}

// asked is the plates and the mark that are asked for.
type asked struct {
	plate, other int
	mark         api.JudgeMark
}

// calls calls all functions.
func calls(s api.JudgeShow, a asked) []cases.Outcome {
	total, e1 := judges.Total(s, a.plate)
	better, e2 := judges.Better(s, a.plate, a.other)
	place, e3 := judges.Place(s, a.plate)
	prize, e4 := judges.Prize(s, a.plate)
	get, miss, e5 := judges.Sure(s)
	needs, e6 := judges.Needs(s, a.plate)
	after, e7 := judges.After(s, a.mark)
	next, e8 := judges.Next(s)
	rank, e9 := judges.Rank(s)
	room, e10 := judges.Room(s, a.mark)
	decide, e11 := judges.Decide(s)
	return []cases.Outcome{
		cases.Got("Check", 0, judges.Check(s)), cases.Got("Total", total.Low+total.High, e1), cases.Got("Better", better, e2), cases.Got("Place", place.Low+place.High, e3), cases.Got("Prize", prize, e4), cases.Got("Sure", len(get)+len(miss), e5),
		cases.Got("Needs", needs, e6), cases.Got("After", after, e7), cases.Got("Next", next.Plate+next.Judge, e8), cases.Got("Rank", len(rank), e9), cases.Got("Room", room.Low+room.High, e10), cases.Got("Decide", len(decide), e11),
	}
}

// P8.1: what is valid, up to each limit.
func TestCheckTakesValid(t *testing.T) {
	for name, s := range map[string]api.JudgeShow{
		"no plates":        show(1, 0, 0),
		"J":                open(1),
		"K":                closed(0, 1),
		"full":             full(),
		"blank":            blank(),
		"the least of all": show(1, 0, 0, plate(0, 0)),
		"the most of all":  show(5, 2, 6, slices.Repeat([]api.JudgePlate{plate(999, 20, 20, 20, 20, 20)}, 6)...),
		"two judges":       show(2, 0, 1, plate(0, -1, 20)),
		"three, Drop 1":    show(3, 1, 1),
		"four, Drop 1":     show(4, 1, 1),
		"prizes to spare":  show(1, 0, 6, plate(1, 1)),
	} {
		if e := judges.Check(s); e != api.OK {
			t.Errorf("%s: Check = %d", name, e)
		}
	}
}

// wrongShows are not valid, each for one reason.
func wrongShows() map[string]api.JudgeShow {
	of := func(change func(s *api.JudgeShow)) api.JudgeShow { return with(open(1), change) }
	plates := func(p api.JudgePlate) api.JudgeShow { return of(func(s *api.JudgeShow) { s.Plates[2] = p }) }
	return map[string]api.JudgeShow{
		"nothing":                 {},
		"no judges":               show(0, 0, 1),
		"no judges, but plates":   show(0, 0, 1, plate(1)),
		"judges below":            show(-1, 0, 1),
		"judges above":            show(api.MaxJudges+1, 0, 1),
		"judges above, plates":    show(6, 0, 1, plate(1, 1, 1, 1, 1, 1, 1)),
		"judges far below":        show(math.MinInt, 0, 1),
		"judges far above":        show(math.MaxInt, 0, 1),
		"Drop below":              of(func(s *api.JudgeShow) { s.Drop = -1 }),
		"Drop far below":          of(func(s *api.JudgeShow) { s.Drop = math.MinInt }),
		"Drop, one judge":         show(1, 1, 1),
		"Drop, two judges":        show(2, 1, 1),
		"Drop, three judges":      show(3, 2, 1),
		"Drop, four judges":       show(4, 2, 1),
		"Drop, five judges":       show(5, 3, 1),
		"Drop far above":          of(func(s *api.JudgeShow) { s.Drop = math.MaxInt }),
		"twice Drop is no int":    of(func(s *api.JudgeShow) { s.Drop = math.MaxInt/2 + 1 }),
		"prizes below":            open(-1),
		"prizes above":            open(api.MaxJudgePrizes + 1),
		"prizes far off":          open(math.MinInt),
		"too many plates":         show(1, 0, 1, slices.Repeat([]api.JudgePlate{plate(1, 1)}, api.MaxJudgePlates+1)...),
		"Size below":              plates(plate(-1, 1, 1, 1)),
		"Size above":              plates(plate(api.MaxJudgeSize+1, 1, 1, 1)),
		"Size far off":            plates(plate(math.MinInt, 1, 1, 1)),
		"no points":               plates(plate(1)),
		"too few points":          plates(plate(1, 1, 1)),
		"too many points":         plates(plate(1, 1, 1, 1, 1)),
		"points below what waits": plates(plate(1, 1, 1, -2)),
		"points above":            plates(plate(1, api.MaxJudgePoints+1, 1, 1)),
		"points far off":          plates(plate(1, 1, math.MaxInt, math.MinInt)),
	}
}

// P8.1, R1, R2: ErrJudge comes before all others.
func TestWrongShows(t *testing.T) {
	for name, s := range wrongShows() {
		for _, a := range []asked{{0, 1, mark(0, 2)}, {0, 0, mark(0, 0)}, {-1, 3, mark(3, -1)}, {math.MaxInt, math.MinInt, mark(math.MinInt, math.MaxInt)}} {
			cases.ExpectError(t, name, calls(s, a), api.ErrJudge)
		}
	}
}

// R1, R2: ErrArg comes before ErrOpen, which the first show has, and before ErrNone, which the second one has: it has no prizes.
func TestWrongArguments(t *testing.T) {
	for _, s := range []api.JudgeShow{open(1), closed(0, 0)} {
		for _, n := range list(-1, 3, 99, math.MinInt, math.MaxInt) {
			cases.ExpectError(t, "no plate", calls(s, asked{n, 0, mark(n, 2)}), api.ErrArg, "Total", "Better", "Place", "Prize", "Needs", "After", "Room")
			cases.ExpectError(t, "no other plate, no judge", calls(s, asked{0, n, mark(0, n)}), api.ErrArg, "Better", "After", "Room")
			cases.ExpectError(t, "neither", calls(s, asked{n, n, mark(n, n)}), api.ErrArg, "Better", "After", "Room")
		}
		for n := range s.Plates {
			cases.ExpectError(t, "a plate and itself", calls(s, asked{n, n, mark(0, 0)}), api.ErrArg, "Better")
		}
	}
	for _, m := range []api.JudgeMark{mark(0, 0), mark(1, 2), mark(2, 0)} {
		cases.ExpectError(t, "points that are in", calls(open(1), asked{0, 1, m}), api.ErrArg, "After")
		cases.ExpectError(t, "all points are in", calls(closed(0, 1), asked{0, 1, m}), api.ErrArg, "After")
	}
	cases.ExpectError(t, "no plates", calls(show(1, 0, 1), asked{0, 1, mark(0, 0)}), api.ErrArg, "Total", "Better", "Place", "Prize", "Needs", "After", "Room")
	cases.ExpectError(t, "a plate, but no judge", calls(late(1), asked{0, 1, mark(1, 1)}), api.ErrArg, "After", "Room")
	cases.ExpectError(t, "a judge, but no plate", calls(full(), asked{0, 1, mark(6, 2)}), api.ErrArg, "After", "Room")
	cases.ExpectError(t, "a mark turned about", calls(show(5, 0, 1, plate(1, 1, 1, 1, 1, -1)), asked{0, 1, mark(4, 0)}), api.ErrArg, "After", "Room")
}

// P8.10 to P8.12: ErrOpen if some points are not in yet, whichever they are.
func TestOpen(t *testing.T) {
	for name, s := range map[string]api.JudgeShow{
		"J":              open(1),
		"full":           full(),
		"blank":          blank(),
		"the first mark": show(2, 0, 1, plate(1, -1, 1), plate(1, 1, 1)),
		"the last mark":  show(2, 0, 1, plate(1, 1, 1), plate(1, 1, -1)),
		"no prizes":      show(1, 0, 0, plate(1, 1), plate(1, -1)),
	} {
		for _, m := range []api.JudgeMark{mark(0, 0), mark(1, s.Judges-1)} {
			cases.ExpectError(t, name, calls(s, asked{0, 1, m}), api.ErrOpen, "Rank", "Room", "Decide")
		}
	}
}

// P8.9: ErrNone if all points are in, also without plates.
func TestNextOfNone(t *testing.T) {
	for name, s := range map[string]api.JudgeShow{"K": closed(0, 1), "no plates": show(5, 2, 6), "one": show(1, 0, 0, plate(0, 0))} {
		cases.ExpectError(t, name, calls(s, asked{}), api.ErrNone, "Next")
	}
}

// P8.2
func TestTotal(t *testing.T) {
	for name, x := range map[string]struct {
		drop   int
		points []int
		want   api.Span
	}{
		"J, 0":                   {0, list(10, 12, -1), span(22, 42)},
		"J, 1":                   {0, list(9, 11, 8), span(28, 28)},
		"J, 2":                   {0, list(15, -1, -1), span(15, 55)},
		"one judge":              {0, list(7), span(7, 7)},
		"one judge, open":        {0, list(-1), span(0, 20)},
		"two judges":             {0, list(20, 20), span(40, 40)},
		"K, 0, Drop 1":           {1, list(10, 12, 6), span(10, 10)},
		"K, 2, Drop 1":           {1, list(15, 5, 7), span(7, 7)},
		"the highest ones equal": {1, list(9, 9, 3), span(9, 9)},
		"the lowest ones equal":  {1, list(3, 9, 3), span(3, 3)},
		"all equal":              {1, list(4, 4, 4, 4), span(8, 8)},
		"Drop 2":                 {2, list(4, 1, 5, 3, 2), span(3, 3)},
		"Drop 2, equal":          {2, list(7, 7, 7, 7, 7), span(7, 7)},
		"Drop 1 of five":         {1, list(20, 0, 1, 2, 3), span(6, 6)},
		"the lowest one comes":   {1, list(7, -1, 12), span(7, 12)},
		"two of three come":      {1, list(-1, 5, -1), span(0, 20)},
		"two of four come":       {1, list(5, -1, 9, -1), span(5, 29)},
		"one of four comes":      {1, list(5, 9, 20, -1), span(14, 29)},
		"it does not count":      {1, list(8, 8, -1), span(8, 8)},
		"two do not count":       {2, list(-1, 8, 8, 8, -1), span(8, 8)},
		"two of five, Drop 2":    {2, list(20, 0, -1, 20, -1), span(0, 20)},
		"all come":               {0, list(-1, -1, -1, -1, -1), span(0, 100)},
		"all come, Drop 1":       {1, list(-1, -1, -1, -1, -1), span(0, 60)},
		"all come, Drop 2":       {2, list(-1, -1, -1, -1, -1), span(0, 20)},
		"the most of all":        {0, list(20, 20, 20, 20, 20), span(100, 100)},
		"the least of all":       {0, list(0, 0, 0, 0, 0), span(0, 0)},
	} {
		s := show(len(x.points), x.drop, 1, plate(3, x.points...))
		if total, e := judges.Total(s, 0); total != x.want || e != api.OK {
			t.Errorf("%s: Total = %v, %d; want %v", name, total, e, x.want)
		}
	}
}

// P8.3
func TestBetter(t *testing.T) {
	one := func(size, points, otherSize, otherPoints int) api.JudgeShow {
		return show(1, 0, 1, plate(size, points), plate(otherSize, otherPoints))
	}
	for name, x := range map[string]struct {
		s            api.JudgeShow
		plate, other int
		there, back  int
	}{
		"J, 0 1":                  {open(1), 0, 1, api.Perhaps, api.Perhaps},
		"J, 0 2":                  {open(1), 0, 2, api.Perhaps, api.Perhaps},
		"J, 1 2":                  {open(1), 1, 2, api.Perhaps, api.Perhaps},
		"K, 1 0":                  {closed(0, 1), 1, 0, api.Surely, api.Never},
		"K, 0 2":                  {closed(0, 1), 0, 2, api.Surely, api.Never},
		"K with Drop 1":           {closed(1, 1), 0, 1, api.Surely, api.Never},
		"alike":                   {even(1), 0, 1, api.Never, api.Never},
		"larger fruits":           {even(1), 1, 2, api.Surely, api.Never},
		"larger fruits by one":    {one(51, 7, 50, 7), 0, 1, api.Surely, api.Never},
		"more points, but small":  {one(0, 8, 999, 7), 0, 1, api.Surely, api.Never},
		"it can be as good":       {one(20, 20, 20, -1), 0, 1, api.Perhaps, api.Never},
		"it can have as much":     {one(30, 20, 20, -1), 0, 1, api.Surely, api.Never},
		"it can be better":        {one(10, 20, 20, -1), 0, 1, api.Perhaps, api.Perhaps},
		"nothing, but larger":     {one(30, 0, 20, -1), 0, 1, api.Perhaps, api.Perhaps},
		"nothing":                 {one(20, 0, 30, -1), 0, 1, api.Never, api.Surely},
		"nothing, of that size":   {one(20, 0, 20, -1), 0, 1, api.Never, api.Perhaps},
		"both come":               {one(20, -1, 30, -1), 0, 1, api.Perhaps, api.Perhaps},
		"what comes is no matter": {show(3, 1, 1, plate(1, 8, 8, -1), plate(9, 7, 7, -1)), 0, 1, api.Surely, api.Never},
	} {
		there, e := judges.Better(x.s, x.plate, x.other)
		back, f := judges.Better(x.s, x.other, x.plate)
		if there != x.there || back != x.back || e != api.OK || f != api.OK {
			t.Errorf("%s: Better = %d, %d; the other way %d, %d; want %d, %d", name, there, e, back, f, x.there, x.back)
		}
	}
}

// P8.4 to P8.7: Place, Prize and Needs of each plate (needs below 0 are none), and Sure.
func TestPrizes(t *testing.T) {
	three := func(p api.Span) []api.Span { return slices.Repeat([]api.Span{p}, 3) }
	for name, x := range map[string]struct {
		s            api.JudgeShow
		places       []api.Span
		prize, needs []int
		get, miss    []int
	}{
		"no plates":                 {show(1, 0, 6), nil, nil, nil, nil, nil},
		"J":                         {open(1), three(span(1, 3)), list(3, 3, 3), list(-1, -1, 43), nil, nil},
		"J, two prizes":             {open(2), three(span(1, 3)), list(3, 3, 3), list(29, -1, 29), nil, nil},
		"J, three prizes":           {open(3), three(span(1, 3)), list(1, 1, 1), list(22, 28, 15), list(0, 1, 2), nil},
		"J, no prizes":              {open(0), three(span(1, 3)), list(2, 2, 2), list(-1, -1, -1), nil, list(0, 1, 2)},
		"K":                         {closed(0, 1), []api.Span{span(2, 2), span(1, 1), span(3, 3)}, list(2, 1, 2), list(-1, 28, -1), list(1), list(0, 2)},
		"K with Drop 1, two prizes": {closed(1, 2), []api.Span{span(1, 1), span(2, 2), span(3, 3)}, list(1, 1, 2), list(10, 9, -1), list(0, 1), list(2)},
		"two in one place":          {even(1), []api.Span{span(1, 1), span(1, 1), span(3, 3)}, list(1, 1, 2), list(20, 20, -1), list(0, 1), list(2)},
		"no second place":           {even(2), []api.Span{span(1, 1), span(1, 1), span(3, 3)}, list(1, 1, 2), list(20, 20, -1), list(0, 1), list(2)},
		"all of them":               {even(3), nil, list(1, 1, 1), list(20, 20, 20), list(0, 1, 2), nil},
		"late":                      {late(1), []api.Span{span(1, 2), span(1, 3), span(2, 3)}, list(3, 3, 2), list(-1, 20, -1), nil, list(2)},
		"late, two prizes":          {late(2), []api.Span{span(1, 2), span(1, 3), span(2, 3)}, list(1, 3, 3), list(20, 6, -1), list(0), nil},
		"one plate":                 {show(1, 0, 1, plate(0, -1)), []api.Span{span(1, 1)}, list(1), list(0), list(0), nil},
		"one plate, no prize":       {show(1, 0, 0, plate(9, 20)), []api.Span{span(1, 1)}, list(2), list(-1), nil, list(0)},
		"prizes to spare":           {show(1, 0, 6, plate(0, -1), plate(0, 7)), []api.Span{span(1, 2), span(1, 2)}, list(1, 1), list(0, 7), list(0, 1), nil},
		"all are first":             {show(1, 0, 1, plate(5, 7), plate(5, 7), plate(5, 7)), three(span(1, 1)), list(1, 1, 1), list(7, 7, 7), list(0, 1, 2), nil},
		"as much is enough":         {show(1, 0, 1, plate(10, 5), plate(10, -1)), []api.Span{span(1, 2), span(1, 2)}, list(3, 3), list(-1, 5), nil, nil},
		"as much is not":            {show(1, 0, 1, plate(11, 5), plate(10, -1)), []api.Span{span(1, 2), span(1, 2)}, list(3, 3), list(-1, 6), nil, nil},
		"full":                      {full(), slices.Repeat([]api.Span{span(1, 6)}, 6), list(1, 1, 1, 1, 1, 1), list(0, 0, 0, 0, 0, 0), list(0, 1, 2, 3, 4, 5), nil},
		"blank":                     {blank(), slices.Repeat([]api.Span{span(1, 6)}, 6), list(3, 3, 3, 3, 3, 3), list(-1, -1, -1, 60, 60, 60), nil, nil},
	} {
		for plate, want := range x.places {
			if place, e := judges.Place(x.s, plate); place != want || e != api.OK {
				t.Errorf("%s: Place of %d = %v, %d; want %v", name, plate, place, e, want)
			}
		}
		for plate, want := range x.prize {
			if prize, e := judges.Prize(x.s, plate); prize != want || e != api.OK {
				t.Errorf("%s: Prize of %d = %d, %d; want %d", name, plate, prize, e, want)
			}
			expectNeeds(t, x.s, plate, x.needs[plate])
		}
		if get, miss, e := judges.Sure(x.s); !slices.Equal(get, x.get) || !slices.Equal(miss, x.miss) || e != api.OK {
			t.Errorf("%s: Sure = %v, %v, %d; want %v, %v", name, get, miss, e, x.get, x.miss)
		}
	}
}

// P8.8, P8.9: After of the marks that are not in yet, the first plate's first, and Next.
func TestNext(t *testing.T) {
	for name, x := range map[string]struct {
		s     api.JudgeShow
		after []int
		next  api.JudgeMark
	}{
		"J":                   {open(1), list(2, 3, 3), mark(0, 2)},
		"J, the other way":    {with(open(1), func(s *api.JudgeShow) { slices.Reverse(s.Plates) }), list(3, 3, 2), mark(2, 2)},
		"J, three prizes":     {open(3), list(0, 0, 0), mark(0, 2)},
		"J, no prizes":        {open(0), list(0, 0, 0), mark(0, 2)},
		"late":                {late(1), list(0), mark(1, 0)},
		"one plate":           {show(2, 0, 1, plate(5, -1, -1)), list(0, 0), mark(0, 0)},
		"its second judge":    {show(2, 0, 1, plate(5, 20, -1)), list(0), mark(0, 1)},
		"both are as good":    {show(1, 0, 1, plate(0, -1), plate(1, -1)), list(2, 2), mark(0, 0)},
		"the first is behind": {show(2, 0, 1, plate(0, -1, 0), plate(0, 15, -1), plate(0, 20, 5)), list(2, 0), mark(1, 1)},
		"by 20 alone":         {show(2, 0, 1, plate(5, -1, 0), plate(5, 20, -1), plate(5, 20, -1)), list(3, 2, 2), mark(1, 1)},
		"by 0 alone":          {show(2, 0, 1, plate(5, 20, -1), plate(5, -1, 0), plate(5, -1, 0)), list(2, 2, 2), mark(0, 1)},
		"full":                {full(), slices.Repeat(list(0), 12), mark(0, 2)},
		"blank":               {blank(), slices.Repeat(list(6), 30), mark(0, 0)},
	} {
		for at, m := range cases.OpenMarks(x.s) {
			if after, e := judges.After(x.s, m); after != x.after[at] || e != api.OK {
				t.Errorf("%s: After of %v = %d, %d; want %d", name, m, after, e, x.after[at])
			}
		}
		if next, e := judges.Next(x.s); next != x.next || e != api.OK {
			t.Errorf("%s: Next = %v, %d; want %v", name, next, e, x.next)
		}
	}
}

// P8.10, P8.12
func TestRankAndDecide(t *testing.T) {
	for name, x := range map[string]struct {
		s            api.JudgeShow
		rank, decide []int
	}{
		"no plates":             {show(1, 0, 1), nil, nil},
		"K":                     {closed(0, 1), list(1, 0, 2), list(1, 2)},
		"K with Drop 1":         {closed(1, 1), list(0, 1, 2), list(0, 1)},
		"no prizes":             {closed(0, 0), list(1, 0, 2), nil},
		"prizes for all":        {closed(0, 3), list(1, 0, 2), nil},
		"alike":                 {even(1), list(0, 1, 2), list(0, 1)},
		"alike by two":          {show(1, 0, 1, plate(5, 1), plate(5, 9), plate(5, 1), plate(5, 9)), list(1, 3, 0, 2), list(0)},
		"by size":               {show(1, 0, 1, plate(10, 3), plate(20, 3), plate(20, 9)), list(2, 1, 0), list(0)},
		"the only judge":        {show(1, 0, 1, plate(10, 5), plate(20, 3)), list(0, 1), list(0)},
		"the only judge agrees": {show(1, 0, 1, plate(10, 3), plate(20, 5)), list(1, 0), nil},
		"one plate":             {show(1, 0, 1, plate(10, 3)), list(0), nil},
		"two judges":            {show(2, 0, 1, plate(9, 8, 4), plate(8, 6, 5)), list(0, 1), list(0)},
		// the totals are 6 and 5; without the last judge Drop is 0, and they are 11 and 12
		"Drop is less then": {show(3, 1, 1, plate(9, 6, 5, 20), plate(9, 7, 5, 0)), list(0, 1), list(2)},
		// with Drop 0 the judges 0 to 2 would decide: without one of four it stays 1
		"Drop stays": {show(4, 1, 1, plate(9, 20, 6, 6, 0), plate(9, 5, 5, 5, 5)), list(0, 1), nil},
	} {
		rank, e := judges.Rank(x.s)
		decide, f := judges.Decide(x.s)
		if !slices.Equal(rank, x.rank) || !slices.Equal(decide, x.decide) || e != api.OK || f != api.OK {
			t.Errorf("%s: Rank = %v, %d; Decide = %v, %d; want %v, %v", name, rank, e, decide, f, x.rank, x.decide)
		}
	}
}

// P8.11
func TestRoom(t *testing.T) {
	for name, x := range map[string]struct {
		s    api.JudgeShow
		mark api.JudgeMark
		want api.Span
	}{
		"K, 2 0":             {closed(0, 1), mark(2, 0), span(0, 16)},
		"K, 1 0":             {closed(0, 1), mark(1, 0), span(9, 20)},
		"K, 0 2":             {closed(0, 1), mark(0, 2), span(0, 6)},
		"K, two prizes, 0 1": {closed(0, 2), mark(0, 1), span(11, 20)},
		"no prizes":          {closed(0, 0), mark(2, 0), span(0, 20)},
		"prizes for all":     {closed(0, 3), mark(1, 1), span(0, 20)},
		"Drop 1, 2 1":        {closed(1, 1), mark(2, 1), span(0, 10)},
		"it does not count":  {closed(1, 1), mark(2, 0), span(0, 20)},
		"alike, so none":     {even(1), mark(0, 0), span(10, 10)},
		"alike, but smaller": {even(1), mark(2, 0), span(0, 9)},
		"alike, two prizes":  {even(2), mark(0, 0), span(10, 20)},
		"one plate":          {show(1, 0, 1, plate(1, 7)), mark(0, 0), span(0, 20)},
		"the least number":   {show(1, 0, 1, plate(1, 0), plate(1, 0)), mark(0, 0), span(0, 0)},
		"the greatest one":   {show(1, 0, 1, plate(1, 20), plate(2, 19)), mark(0, 0), span(20, 20)},
	} {
		if room, e := judges.Room(x.s, x.mark); room != x.want || e != api.OK {
			t.Errorf("%s: Room = %v, %d; want %v", name, room, e, x.want)
		}
	}
}
