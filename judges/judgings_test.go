package judges_test

import (
	"slices"
	"testing"

	"pippin/api"
	"pippin/cases"
	"pippin/judges"
)

// given returns a show with other points of some marks.
func given(s api.JudgeShow, marks []api.JudgeMark, points ...int) api.JudgeShow {
	return with(s, func(s *api.JudgeShow) {
		for at, m := range marks {
			s.Plates[m.Plate].Points[m.Judge] = points[at]
		}
	})
}

// judging is a show all of whose points are in, with what comes of it.
type judging struct {
	api.JudgeShow
	totals, places []int
	get            []bool
}

// totalOf takes the highest and the lowest points away one by one, and returns the sum of the others.
func totalOf(points []int, drop int) int {
	points = slices.Clone(points)
	for range drop {
		for _, end := range list(slices.Max(points), slices.Min(points)) {
			at := slices.Index(points, end)
			points = slices.Delete(points, at, at+1)
		}
	}
	return cases.Sum(points)
}

// isBetter says whether a plate is better than another one, as the chapter defines it.
func (j judging) isBetter(plate, other int) bool {
	if j.totals[plate] == j.totals[other] {
		return j.Plates[plate].Size > j.Plates[other].Size
	}
	return j.totals[plate] > j.totals[other]
}

// judge returns what comes of a show, as the chapter defines it.
func judge(s api.JudgeShow) judging {
	j := judging{JudgeShow: s}
	for _, p := range s.Plates {
		j.totals = append(j.totals, totalOf(p.Points, s.Drop))
	}
	for plate := range s.Plates {
		place := 1
		for other := range s.Plates {
			if j.isBetter(other, plate) {
				place++
			}
		}
		j.places, j.get = append(j.places, place), append(j.get, place <= s.Prizes)
	}
	return j
}

// allJudgings writes down all judgings.
func allJudgings(s api.JudgeShow) []judging {
	open := cases.OpenMarks(s)
	var all []judging
	for _, points := range cases.AllBelow(slices.Repeat(list(api.MaxJudgePoints+1), len(open))) {
		all = append(all, judge(given(s, open, points...)))
	}
	return all
}

// spanOf returns between what a number is in all judgings.
func spanOf(all []judging, number func(j judging) int) api.Span {
	s := span(number(all[0]), number(all[0]))
	for _, j := range all {
		s = span(min(s.Low, number(j)), max(s.High, number(j)))
	}
	return s
}

// knownOf says what all judgings together say.
func knownOf(all []judging, is func(j judging) bool) int {
	isNot := func(j judging) bool { return !is(j) }
	known := api.Perhaps
	if !slices.ContainsFunc(all, isNot) {
		known = api.Surely
	} else if !slices.ContainsFunc(all, is) {
		known = api.Never
	}
	return known
}

// prizeOf says what is known of the prize of a plate.
func prizeOf(all []judging, plate int) int {
	return knownOf(all, func(j judging) bool { return j.get[plate] })
}

// needsOf looks for the least total with which a plate gets a prize in each judging in which it has it; -1 if there is none.
func needsOf(all []judging, plate int) int {
	const none = api.MaxJudges*api.MaxJudgePoints + 1
	missed := map[int]bool{}
	for _, j := range all {
		missed[j.totals[plate]] = missed[j.totals[plate]] || !j.get[plate]
	}
	least := none
	for total, missed := range missed {
		if !missed {
			least = min(least, total)
		}
	}
	if least == none {
		return -1
	}
	return least
}

// afterOf says how many plates are not known at the most if a mark comes in.
func afterOf(s api.JudgeShow, all []judging, m api.JudgeMark) int {
	byPoints := map[int][]judging{}
	for _, j := range all {
		points := j.Plates[m.Plate].Points[m.Judge]
		byPoints[points] = append(byPoints[points], j)
	}
	most := 0
	for _, left := range byPoints {
		doubts := 0
		for plate := range s.Plates {
			if prizeOf(left, plate) == api.Perhaps {
				doubts++
			}
		}
		most = max(most, doubts)
	}
	return most
}

// eachShow calls a test with many small shows.
func eachShow(test func(d *cases.Dice, s api.JudgeShow)) {
	d := cases.Dice(8)
	for _, s := range []api.JudgeShow{show(1, 0, 0), open(1), open(2), closed(0, 1), closed(1, 1), even(1), full(), blank()} {
		test(&d, s)
	}
	for range 600 {
		test(&d, d.JudgeShow(1+d.Below(api.MaxJudges), d.Below(api.MaxJudgePlates+1), d.Below(7)))
	}
}

// eachWritten calls a test with shows of which all judgings can be written down.
func eachWritten(test func(d *cases.Dice, s api.JudgeShow)) {
	d := cases.Dice(80)
	for _, s := range []api.JudgeShow{open(1), open(2), open(3), late(1), late(2)} {
		test(&d, s)
	}
	for range 200 {
		test(&d, d.JudgeShow(1+d.Below(api.MaxJudges), 1+d.Below(api.MaxJudgePlates), d.Below(3)))
	}
	for range 15 {
		test(&d, d.JudgeShow(1+d.Below(api.MaxJudges), 2+d.Below(3), 3))
	}
}

// P8.2 to P8.9: what all judgings say, written down one by one.
func TestAgainstAllJudgings(t *testing.T) {
	seen := map[int]int{}
	eachWritten(func(_ *cases.Dice, s api.JudgeShow) {
		all := allJudgings(s)
		var get, miss []int
		for plate := range s.Plates {
			total, e := judges.Total(s, plate)
			place, f := judges.Place(s, plate)
			prize, g := judges.Prize(s, plate)
			wantTotal := spanOf(all, func(j judging) int { return j.totals[plate] })
			wantPlace := spanOf(all, func(j judging) int { return j.places[plate] })
			want := prizeOf(all, plate)
			if total != wantTotal || place != wantPlace || prize != want || e != api.OK || f != api.OK || g != api.OK {
				t.Errorf("%v, %d: Total = %v, %d; Place = %v, %d; Prize = %d, %d; want %v, %v, %d", s, plate, total, e, place, f, prize, g, wantTotal, wantPlace, want)
			}
			expectNeeds(t, s, plate, needsOf(all, plate))
			expectBetter(t, s, all, plate)
			seen[want]++
			if want == api.Surely {
				get = append(get, plate)
			} else if want == api.Never {
				miss = append(miss, plate)
			}
		}
		if isGet, isMiss, e := judges.Sure(s); !slices.Equal(isGet, get) || !slices.Equal(isMiss, miss) || e != api.OK {
			t.Errorf("Sure of %v = %v, %v, %d; want %v, %v", s, isGet, isMiss, e, get, miss)
		}
		expectNext(t, s, all)
	})
	// a test that saw few plates of one kind would say little
	if len(seen) < 3 || seen[api.Surely] < 50 || seen[api.Never] < 50 || seen[api.Perhaps] < 50 {
		t.Errorf("what is known of prizes, how often: %v", seen)
	}
}

// expectNeeds checks Needs, of which there is none if it is below 0.
func expectNeeds(t *testing.T, s api.JudgeShow, plate, want int) {
	t.Helper()
	needs, e := judges.Needs(s, plate)
	if want >= 0 && (needs != want || e != api.OK) || want < 0 && (needs != 0 || e != api.ErrNone) {
		t.Errorf("Needs of %v, %d = %d, %d; want %d", s, plate, needs, e, want)
	}
}

// expectBetter checks Better of a plate and each other one.
func expectBetter(t *testing.T, s api.JudgeShow, all []judging, plate int) {
	t.Helper()
	for other := range s.Plates {
		if other == plate {
			continue
		}
		want := knownOf(all, func(j judging) bool { return j.isBetter(plate, other) })
		if better, e := judges.Better(s, plate, other); better != want || e != api.OK {
			t.Errorf("Better of %v, %d, %d = %d, %d; want %d", s, plate, other, better, e, want)
		}
	}
}

// expectNext checks After of each mark that is not in yet, and Next.
func expectNext(t *testing.T, s api.JudgeShow, all []judging) {
	t.Helper()
	open := cases.OpenMarks(s)
	var best api.JudgeMark
	least := len(s.Plates) + 1
	for _, m := range open {
		want := afterOf(s, all, m)
		if after, e := judges.After(s, m); after != want || e != api.OK {
			t.Errorf("After of %v, %v = %d, %d; want %d", s, m, after, e, want)
		}
		if want < least {
			best, least = m, want
		}
	}
	next, e := judges.Next(s)
	if next != best || (e == api.OK) != (len(open) > 0) || e != api.OK && e != api.ErrNone {
		t.Errorf("Next of %v = %v, %d; want %v of %v", s, next, e, best, open)
	}
}

// winners returns the plates that get prizes in a judging.
func (j judging) winners() []int {
	var plates []int
	for plate, gets := range j.get {
		if gets {
			plates = append(plates, plate)
		}
	}
	return plates
}

// without returns a show without a judge, as P8.12 says.
func without(s api.JudgeShow, judge int) api.JudgeShow {
	return with(s, func(s *api.JudgeShow) {
		s.Judges--
		for s.Drop > 0 && 2*s.Drop >= s.Judges {
			s.Drop--
		}
		for plate := range s.Plates {
			s.Plates[plate].Points = slices.Delete(s.Plates[plate].Points, judge, judge+1)
		}
	})
}

// eachClosed calls a test with many shows all of whose points are in.
func eachClosed(test func(d *cases.Dice, s api.JudgeShow)) {
	d := cases.Dice(81)
	for _, s := range []api.JudgeShow{show(1, 0, 1), closed(0, 1), closed(1, 1), closed(0, 0), closed(0, 3), even(1), even(2)} {
		test(&d, s)
	}
	for range 500 {
		test(&d, d.JudgeShow(1+d.Below(api.MaxJudges), d.Below(api.MaxJudgePlates+1), 0))
	}
}

// P8.10 to P8.12: what the chapter says of the plates' places.
func TestClosedAgainstTheChapter(t *testing.T) {
	narrow, decides, not := 0, 0, 0
	eachClosed(func(_ *cases.Dice, s api.JudgeShow) {
		j := judge(s)
		rank := numbersOf(t, judges.Rank, s)
		var want []int
		for place := range len(s.Plates) {
			for plate, p := range j.places {
				if p == place+1 {
					want = append(want, plate)
				}
			}
		}
		if !slices.Equal(rank, want) {
			t.Errorf("Rank of %v = %v; want %v", s, rank, want)
		}
		var deciding []int
		for number := range s.Judges {
			if !slices.Equal(judge(without(s, number)).winners(), j.winners()) {
				deciding = append(deciding, number)
			}
		}
		if decide := numbersOf(t, judges.Decide, s); !slices.Equal(decide, deciding) {
			t.Errorf("Decide of %v = %v; want %v", s, decide, deciding)
		}
		decides, not = decides+len(deciding), not+s.Judges-len(deciding)
		narrow += expectRooms(t, s, j)
	})
	// a test that saw few of one kind would say little
	if narrow < 500 || decides < 200 || not < 200 {
		t.Errorf("%d rooms are not all; %d judges decide, %d do not", narrow, decides, not)
	}
}

// expectRooms checks Room of each mark, and returns how many of them are not of all numbers.
func expectRooms(t *testing.T, s api.JudgeShow, j judging) int {
	t.Helper()
	narrow := 0
	for _, m := range allMarks(s) {
		var same []int
		for points := range api.MaxJudgePoints + 1 {
			if slices.Equal(judge(given(s, []api.JudgeMark{m}, points)).winners(), j.winners()) {
				same = append(same, points)
			}
		}
		want := span(same[0], same[len(same)-1])
		room, e := judges.Room(s, m)
		if room != want || e != api.OK || want.High-want.Low != len(same)-1 {
			t.Errorf("Room of %v, %v = %v, %d; the same plates get prizes with %v", s, m, room, e, same)
		}
		if len(same) <= api.MaxJudgePoints {
			narrow++
		}
	}
	return narrow
}

// allMarks returns all marks of a show.
func allMarks(s api.JudgeShow) []api.JudgeMark {
	var marks []api.JudgeMark
	for plate := range s.Plates {
		for judge := range s.Judges {
			marks = append(marks, mark(plate, judge))
		}
	}
	return marks
}
