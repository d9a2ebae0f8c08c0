package judges_test

import (
	"reflect"
	"slices"
	"testing"

	"pippin/api"
	"pippin/cases"
	"pippin/judges"
)

func totalIn(t *testing.T, s api.JudgeShow, plate int) api.Span {
	t.Helper()
	total, e := judges.Total(s, plate)
	if e != api.OK {
		t.Fatalf("Total of %v, %d: error %d", s, plate, e)
	}
	return total
}

func placeIn(t *testing.T, s api.JudgeShow, plate int) api.Span {
	t.Helper()
	place, e := judges.Place(s, plate)
	if e != api.OK {
		t.Fatalf("Place of %v, %d: error %d", s, plate, e)
	}
	return place
}

func prizeIn(t *testing.T, s api.JudgeShow, plate int) int {
	t.Helper()
	prize, e := judges.Prize(s, plate)
	if e != api.OK {
		t.Fatalf("Prize of %v, %d: error %d", s, plate, e)
	}
	return prize
}

func betterIn(t *testing.T, s api.JudgeShow, plate, other int) int {
	t.Helper()
	better, e := judges.Better(s, plate, other)
	if e != api.OK {
		t.Fatalf("Better of %v, %d, %d: error %d", s, plate, other, e)
	}
	return better
}

func afterIn(t *testing.T, s api.JudgeShow, m api.JudgeMark) int {
	t.Helper()
	after, e := judges.After(s, m)
	if e != api.OK {
		t.Fatalf("After of %v, %v: error %d", s, m, e)
	}
	return after
}

func roomIn(t *testing.T, s api.JudgeShow, m api.JudgeMark) api.Span {
	t.Helper()
	room, e := judges.Room(s, m)
	if e != api.OK {
		t.Fatalf("Room of %v, %v: error %d", s, m, e)
	}
	return room
}

func sureIn(t *testing.T, s api.JudgeShow) (get, miss []int) {
	t.Helper()
	get, miss, e := judges.Sure(s)
	if e != api.OK {
		t.Fatalf("Sure of %v: error %d", s, e)
	}
	return get, miss
}

// numbersOf calls Rank or Decide.
func numbersOf(t *testing.T, call func(s api.JudgeShow) ([]int, api.Errno), s api.JudgeShow) []int {
	t.Helper()
	numbers, e := call(s)
	if e != api.OK {
		t.Fatalf("%v: error %d", s, e)
	}
	return numbers
}

// inside reports whether a span is part of another one.
func inside(part, all api.Span) bool {
	return all.Low <= part.Low && part.High <= all.High
}

// eachJudging calls a test with some judgings of a show, those among them in which one plate gets as much as it can, and all others as little, or the other way around.
func eachJudging(d *cases.Dice, s api.JudgeShow, test func(j api.JudgeShow)) {
	marks := cases.OpenMarks(s)
	fill := func(points func(plate int) int) {
		var all []int
		for _, m := range marks {
			all = append(all, points(m.Plate))
		}
		test(given(s, marks, all...))
	}
	for plate := range s.Plates {
		for _, points := range [][]int{{api.MaxJudgePoints, 0}, {0, api.MaxJudgePoints}} {
			fill(func(other int) int {
				if other == plate {
					return points[0]
				}
				return points[1]
			})
		}
	}
	for range 5 {
		fill(func(int) int { return d.Below(api.MaxJudgePoints + 1) })
	}
}

// P8.13 (each judging), and that the ends of Total and Place are reached, however many points are not in yet.
func TestEachJudging(t *testing.T) {
	eachShow(func(d *cases.Dice, s api.JudgeShow) {
		get, miss := sureIn(t, s)
		var totals, places [api.MaxJudgePlates][]int
		eachJudging(d, s, func(j api.JudgeShow) {
			now, not := sureIn(t, j)
			if !cases.Subset(get, now) || !cases.Subset(miss, not) || len(now)+len(not) != len(s.Plates) {
				t.Errorf("Sure of %v is %v, %v; of the judging %v it is %v, %v", s, get, miss, j, now, not)
			}
			for plate := range s.Plates {
				total, place := totalIn(t, j, plate), placeIn(t, j, plate)
				totals[plate], places[plate] = append(totals[plate], total.Low), append(places[plate], place.Low)
				if total.Low != total.High || place.Low != place.High {
					t.Errorf("%v, %d: Total is %v, Place %v", j, plate, total, place)
				}
				expectKeptBetter(t, s, j, plate)
			}
		})
		for plate := range s.Plates {
			total, place := totalIn(t, s, plate), placeIn(t, s, plate)
			if total != span(slices.Min(totals[plate]), slices.Max(totals[plate])) || place != span(slices.Min(places[plate]), slices.Max(places[plate])) {
				t.Errorf("%v, %d: Total is %v, Place %v; in judgings they are %v, %v", s, plate, total, place, totals[plate], places[plate])
			}
		}
	})
}

// expectKeptBetter checks that what is known of a plate and each other one is known still if points come in.
func expectKeptBetter(t *testing.T, s, more api.JudgeShow, plate int) {
	t.Helper()
	for other := range s.Plates {
		if other == plate {
			continue
		}
		known, now := betterIn(t, s, plate, other), betterIn(t, more, plate, other)
		if known != api.Perhaps && now != known {
			t.Errorf("Better of %v, %d, %d is %d; of %v it is %d", s, plate, other, known, more, now)
		}
		if known == api.Surely && betterIn(t, s, other, plate) != api.Never {
			t.Errorf("%v: %d and %d are both better", s, plate, other)
		}
	}
}

// P8.14 (one more comes in)
func TestOneMoreComesIn(t *testing.T) {
	eachShow(func(d *cases.Dice, s api.JudgeShow) {
		for _, m := range cases.OpenMarks(s) {
			more := given(s, []api.JudgeMark{m}, d.Below(api.MaxJudgePoints+1))
			for plate := range s.Plates {
				if total, now := totalIn(t, s, plate), totalIn(t, more, plate); !inside(now, total) {
					t.Errorf("Total of %v, %d is %v; of %v it is %v", s, plate, total, more, now)
				}
				if place, now := placeIn(t, s, plate), placeIn(t, more, plate); !inside(now, place) {
					t.Errorf("Place of %v, %d is %v; of %v it is %v", s, plate, place, more, now)
				}
				if prize, now := prizeIn(t, s, plate), prizeIn(t, more, plate); prize != api.Perhaps && now != prize {
					t.Errorf("Prize of %v, %d is %d; of %v it is %d", s, plate, prize, more, now)
				}
				expectKeptBetter(t, s, more, plate)
			}
		}
	})
}

// P8.15 (any order): of judges and of plates.
func TestAnyOrder(t *testing.T) {
	test := func(d *cases.Dice, s api.JudgeShow) {
		byPlate, byJudge := d.Shuffled(len(s.Plates)), d.Shuffled(s.Judges)
		other := with(s, func(s *api.JudgeShow) {
			s.Plates = cases.Pick(s.Plates, byPlate)
			for plate := range s.Plates {
				s.Plates[plate].Points = cases.Pick(s.Plates[plate].Points, byJudge)
			}
		})
		for plate, was := range byPlate {
			expectSamePlate(t, s, other, was, plate)
			for another, wasToo := range byPlate {
				if another != plate && betterIn(t, s, was, wasToo) != betterIn(t, other, plate, another) {
					t.Errorf("Better of %v, %d, %d is another one of %v, %d, %d", s, was, wasToo, other, plate, another)
				}
			}
		}
		get, miss := sureIn(t, s)
		if isGet, isMiss := sureIn(t, other); !slices.Equal(cases.Back(isGet, byPlate), get) || !slices.Equal(cases.Back(isMiss, byPlate), miss) {
			t.Errorf("Sure of %v is %v, %v; of %v it is %v, %v", s, get, miss, other, isGet, isMiss)
		}
		was := func(m api.JudgeMark) api.JudgeMark { return mark(byPlate[m.Plate], byJudge[m.Judge]) }
		if len(cases.OpenMarks(s)) == 0 {
			expectSameClosed(t, s, other, byPlate, byJudge, was)
			return
		}
		expectSameOpen(t, s, other, was)
	}
	eachShow(test)
	eachClosed(test)
}

// expectSamePlate checks that a plate of a show has the same Total, Place, Prize and Needs as one of another show.
func expectSamePlate(t *testing.T, s, other api.JudgeShow, plate, number int) {
	t.Helper()
	needs, e := judges.Needs(s, plate)
	again, f := judges.Needs(other, number)
	if totalIn(t, s, plate) != totalIn(t, other, number) || placeIn(t, s, plate) != placeIn(t, other, number) || prizeIn(t, s, plate) != prizeIn(t, other, number) || needs != again || e != f {
		t.Errorf("the plate %d of %v is not what %d of %v is", plate, s, number, other)
	}
}

// expectSameOpen checks After and Next of a show in another order.
func expectSameOpen(t *testing.T, s, other api.JudgeShow, was func(m api.JudgeMark) api.JudgeMark) {
	t.Helper()
	for _, m := range cases.OpenMarks(other) {
		if before, after := afterIn(t, s, was(m)), afterIn(t, other, m); before != after {
			t.Errorf("After of %v, %v is %d; of %v, %v it is %d", s, was(m), before, other, m, after)
		}
	}
	next, e := judges.Next(s)
	again, f := judges.Next(other)
	// of several marks the first one depends on the order
	if e != api.OK || f != api.OK || afterIn(t, s, next) != afterIn(t, other, again) {
		t.Errorf("Next of %v = %v, %d; of %v it is %v, %d", s, next, e, other, again, f)
	}
}

// expectSameClosed checks Rank, Room and Decide of a show in another order.
func expectSameClosed(t *testing.T, s, other api.JudgeShow, byPlate, byJudge []int, was func(m api.JudgeMark) api.JudgeMark) {
	t.Helper()
	rank, again := numbersOf(t, judges.Rank, s), numbersOf(t, judges.Rank, other)
	for at, plate := range again {
		// of plates with the same place the first one depends on the order
		if placeIn(t, s, byPlate[plate]) != placeIn(t, s, rank[at]) {
			t.Errorf("Rank of %v is %v; of %v it is %v", s, rank, other, again)
		}
	}
	for _, m := range allMarks(other) {
		if before, after := roomIn(t, s, was(m)), roomIn(t, other, m); before != after {
			t.Errorf("Room of %v, %v is %v; of %v, %v it is %v", s, was(m), before, other, m, after)
		}
	}
	decide, now := numbersOf(t, judges.Decide, s), numbersOf(t, judges.Decide, other)
	if !slices.Equal(cases.Back(now, byJudge), decide) {
		t.Errorf("Decide of %v is %v; of %v it is %v", s, decide, other, now)
	}
}

// P8.16 (more points)
func TestMorePoints(t *testing.T) {
	higher := 0
	test := func(d *cases.Dice, s api.JudgeShow) {
		for plate, p := range s.Plates {
			judge := d.Below(s.Judges)
			points := p.Points[judge]
			if points != api.JudgeOpen && points < api.MaxJudgePoints {
				higher += expectHigher(t, s, plate, given(s, []api.JudgeMark{mark(plate, judge)}, points+1+d.Below(api.MaxJudgePoints-points)))
			}
			if p.Size < api.MaxJudgeSize {
				higher += expectHigher(t, s, plate, with(s, func(s *api.JudgeShow) { s.Plates[plate].Size += 1 + d.Below(api.MaxJudgeSize-p.Size) }))
			}
		}
	}
	eachShow(test)
	eachClosed(test)
	if higher < 1000 {
		t.Errorf("only %d plates came to another place", higher)
	}
}

// expectHigher checks that a plate, of which there is more, is not behind where it was, and no other one ahead. It returns 1 if its place is another one.
func expectHigher(t *testing.T, s api.JudgeShow, plate int, more api.JudgeShow) int {
	t.Helper()
	moved := 0
	for number := range s.Plates {
		was, is := placeIn(t, s, number), placeIn(t, more, number)
		if number == plate && (is.Low > was.Low || is.High > was.High) || number != plate && (is.Low < was.Low || is.High < was.High) {
			t.Errorf("Place of %v, %d is %v; with more for %d, %v, it is %v", s, number, was, plate, more, is)
		}
		if number == plate && is != was {
			moved = 1
		}
	}
	return moved
}

// P8.17 (as many as there are)
func TestAsManyAsThereAre(t *testing.T) {
	more := 0
	eachShow(func(d *cases.Dice, s api.JudgeShow) {
		eachJudging(d, s, func(j api.JudgeShow) {
			get, _ := sureIn(t, j)
			if len(get) < min(s.Prizes, len(s.Plates)) {
				t.Errorf("%v: only %v get prizes", j, get)
			}
			if len(get) > s.Prizes {
				more++
			}
		})
		if s.Prizes == api.MaxJudgePrizes {
			return
		}
		get, miss := sureIn(t, s)
		now, not := sureIn(t, with(s, func(s *api.JudgeShow) { s.Prizes++ }))
		if !cases.Subset(get, now) || !cases.Subset(not, miss) {
			t.Errorf("Sure of %v is %v, %v; with one prize more it is %v, %v", s, get, miss, now, not)
		}
	})
	if more < 100 {
		t.Errorf("in only %d judgings more plates get prizes than there are", more)
	}
}

// P8.18 (needs)
func TestNeeds(t *testing.T) {
	surely, other := 0, 0
	eachShow(func(d *cases.Dice, s api.JudgeShow) {
		for plate := range s.Plates {
			needs, e := judges.Needs(s, plate)
			total := totalIn(t, s, plate)
			least := e == api.OK && needs == total.Low
			if least != (prizeIn(t, s, plate) == api.Surely) || e == api.OK && !inside(span(needs, needs), total) {
				t.Errorf("%v, %d: Needs = %d, %d; Total is %v, Prize %d", s, plate, needs, e, total, prizeIn(t, s, plate))
			}
			if e != api.OK {
				continue
			}
			if least {
				surely++
			} else {
				other++
			}
			eachJudging(d, s, func(j api.JudgeShow) {
				if has := totalIn(t, j, plate); has.Low >= needs && prizeIn(t, j, plate) != api.Surely {
					t.Errorf("%v, %d: Needs is %d; in %v the total is %d, and there is no prize", s, plate, needs, j, has.Low)
				}
			})
		}
	})
	if surely < 200 || other < 100 {
		t.Errorf("%d plates need no more than they have, %d do", surely, other)
	}
}

// P8.19 (room)
func TestRoomAndRank(t *testing.T) {
	eachClosed(func(_ *cases.Dice, s api.JudgeShow) {
		get, _ := sureIn(t, s)
		for _, m := range allMarks(s) {
			points := s.Plates[m.Plate].Points[m.Judge]
			room := roomIn(t, s, m)
			if !inside(span(points, points), room) || !inside(room, span(0, api.MaxJudgePoints)) {
				t.Errorf("Room of %v, %v = %v", s, m, room)
			}
			for number := range api.MaxJudgePoints + 1 {
				now, _ := sureIn(t, given(s, []api.JudgeMark{m}, number))
				if slices.Equal(now, get) != inside(span(number, number), room) {
					t.Errorf("Room of %v, %v = %v; with %d these plates get prizes: %v", s, m, room, number, now)
				}
			}
		}
		rank := numbersOf(t, judges.Rank, s)
		if all := slices.Sorted(slices.Values(rank)); len(all) != len(s.Plates) || len(slices.Compact(all)) != len(s.Plates) {
			t.Errorf("Rank of %v = %v", s, rank)
		}
		for at, plate := range rank {
			for _, later := range rank[at+1:] {
				if betterIn(t, s, later, plate) != api.Never {
					t.Errorf("Rank of %v = %v; %d is better than %d", s, rank, later, plate)
				}
			}
		}
	})
}

// lists returns the lists that the functions return.
func lists(s api.JudgeShow) [][]int {
	get, miss, _ := judges.Sure(s)
	rank, _ := judges.Rank(s)
	decide, _ := judges.Decide(s)
	return [][]int{get, miss, rank, decide}
}

// throwAsked returns plates and a mark of a show, if it has any.
func throwAsked(d *cases.Dice, s api.JudgeShow) asked {
	plates := max(1, len(s.Plates))
	a := asked{d.Below(plates), d.Below(plates), mark(d.Below(plates), d.Below(s.Judges))}
	if open := cases.OpenMarks(s); len(open) > 0 {
		a.mark = open[d.Below(len(open))]
	}
	return a
}

// R4: no argument is changed, not even behind its lists, and no result is a part of one.
func TestNewMemory(t *testing.T) {
	test := func(d *cases.Dice, s api.JudgeShow) {
		longer := with(s, func(s *api.JudgeShow) {
			for plate := range s.Plates {
				s.Plates[plate].Points = append(s.Plates[plate].Points, 98)[:s.Judges]
			}
			s.Plates = append(s.Plates, plate(98, 98))
		})
		was := with(longer, func(s *api.JudgeShow) {})
		cut := longer
		cut.Plates = longer.Plates[:len(s.Plates)]
		calls(cut, throwAsked(d, s))
		for _, result := range lists(cut) {
			cases.Spoil(result)
		}
		if !reflect.DeepEqual(longer, was) {
			t.Errorf("%v came to be %v", was, longer)
		}
		for _, p := range cut.Plates {
			if behind := p.Points[:s.Judges+1][s.Judges]; behind != 98 {
				t.Errorf("%v: behind the points %v came %d", was, p.Points, behind)
			}
		}
	}
	eachShow(test)
	eachClosed(test)
}

// The same arguments have the same results, also after results were overwritten.
func TestTheSameAgain(t *testing.T) {
	test := func(d *cases.Dice, s api.JudgeShow) {
		cases.ExpectOwnLists(t, func() [][]int { return lists(s) }, s)
		a := throwAsked(d, s)
		if outcomes, again := calls(s, a), calls(s, a); !slices.Equal(outcomes, again) {
			t.Errorf("%v, %v: %v, and again %v", s, a, outcomes, again)
		}
	}
	eachShow(test)
	eachClosed(test)
}

// R3: nil and empty lists are the same.
func TestNilAndEmpty(t *testing.T) {
	for name, pair := range map[string][2]api.JudgeShow{
		"plates": {show(2, 0, 1), {Judges: 2, Prizes: 1, Plates: []api.JudgePlate{}}},
		"points": {show(2, 0, 1, plate(1)), show(2, 0, 1, plate(1, []int{}...))},
	} {
		if outcomes, others := calls(pair[0], asked{}), calls(pair[1], asked{}); !slices.Equal(outcomes, others) {
			t.Errorf("%s: %v of nil; %v of empty", name, outcomes, others)
		}
	}
}

// P1 (DOC.md): every function terminates, and none panics, whatever its arguments are; R2 holds for them, too.
func TestAnyArguments(t *testing.T) {
	eachShow(func(d *cases.Dice, s api.JudgeShow) {
		if d.Below(4) > 0 {
			s = d.SpoiltJudgeShow(s)
		}
		for range 3 {
			a := asked{d.Odd(), d.Odd(), mark(d.Odd(), d.Odd())}
			cases.ExpectNothingElse(t, calls(s, a), s, a)
		}
	})
	long := show(5, 2, 6, make([]api.JudgePlate, 1<<20)...)
	cases.ExpectError(t, "many plates", calls(long, asked{}), api.ErrJudge)
	cases.ExpectError(t, "many points", calls(show(5, 2, 6, plate(1, make([]int, 1<<20)...)), asked{}), api.ErrJudge)
}
