package plates_test

import (
	"reflect"
	"slices"
	"testing"

	"pippin/api"
	"pippin/cases"
	"pippin/plates"
)

// none stands for Fewest or Slackest if there is none: it is greater than each that there is.
const none = 99

// leastOf calls Fewest or Slackest.
func leastOf(t *testing.T, call func(x api.PlateCase) (int, api.Errno), x api.PlateCase) int {
	t.Helper()
	least, e := call(x)
	if e == api.ErrNone {
		return none
	}
	if e != api.OK {
		t.Fatalf("%v: error %d", x, e)
	}
	return least
}

func fewestIn(t *testing.T, x api.PlateCase) int {
	t.Helper()
	return leastOf(t, plates.Fewest, x)
}

func slackestIn(t *testing.T, x api.PlateCase) int {
	t.Helper()
	return leastOf(t, plates.Slackest, x)
}

// changedIn returns whether a plate was changed; 0 if there is no truth.
func changedIn(t *testing.T, x api.PlateCase, plate int) int {
	t.Helper()
	changed, e := plates.Changed(x, plate)
	if e != api.OK && e != api.ErrNone {
		t.Fatalf("Changed of %v, %d: error %d", x, plate, e)
	}
	return changed
}

// whenIn returns the judges before whom a plate was changed in some truth.
func whenIn(t *testing.T, x api.PlateCase, plate int) []int {
	t.Helper()
	when, e := plates.When(x, plate)
	if e != api.OK && e != api.ErrNone {
		t.Fatalf("When of %v, %d: error %d", x, plate, e)
	}
	return when
}

// namedIn returns the plates that are named; none if there is no truth.
func namedIn(t *testing.T, x api.PlateCase) []int {
	t.Helper()
	named, e := plates.Named(x)
	if e != api.OK && e != api.ErrNone {
		t.Fatalf("Named of %v: error %d", x, e)
	}
	return named
}

// strictIn returns by how much a judge is off; nothing if there is no truth.
func strictIn(t *testing.T, x api.PlateCase, judge int) api.Span {
	t.Helper()
	strict, e := plates.Strict(x, judge)
	if e != api.OK && e != api.ErrNone {
		t.Fatalf("Strict of %v, %d: error %d", x, judge, e)
	}
	return strict
}

// qualityIn returns the quality of a plate for a judge; nothing if there is no truth.
func qualityIn(t *testing.T, x api.PlateCase, plate, judge int) api.Span {
	t.Helper()
	quality, e := plates.Quality(x, plate, judge)
	if e != api.OK && e != api.ErrNone {
		t.Fatalf("Quality of %v, %d, %d: error %d", x, plate, judge, e)
	}
	return quality
}

// inside reports whether a number is in a span.
func inside(number int, s api.Span) bool {
	return s.Low <= number && number <= s.High
}

// eachTasted calls a test with cases of any size, and a tasting of each in which its points fit.
func eachTasted(test func(d *cases.Dice, x api.PlateCase, tasted cases.Tasting)) {
	d := cases.Dice(9)
	for range 2000 {
		many, of := 1+d.Below(api.MaxJudges), d.Below(api.MaxJudgePlates+1)
		slack := d.Below(1 + d.Below(1+d.Below(api.MaxPlateSlack+1)))
		x, tasted := d.TastedCase(many, of, d.Below(7), d.Below(api.MaxPlateOff+1), slack, d.Below(4))
		test(&d, x, tasted)
	}
}

// eachCase calls a test with these cases, with others, and with those of the examples.
func eachCase(test func(d *cases.Dice, x api.PlateCase)) {
	d := cases.Dice(92)
	for _, x := range []api.PlateCase{bare(1, 0, 0, 0), caseX(0, 1), caseX(0, 0), caseX(1, 2), caseX(2, 0), either(1), both(2), three(), twice(), full(), blank()} {
		test(&d, x)
	}
	for range 400 {
		test(&d, d.PlateCase(1+d.Below(api.MaxJudges), d.Below(api.MaxJudgePlates+1), d.Below(7)))
	}
	eachTasted(func(d *cases.Dice, x api.PlateCase, _ cases.Tasting) { test(d, x) })
}

// P9.12 (each truth)
func TestEachTruth(t *testing.T) {
	truths := map[int]int{}
	eachTasted(func(_ *cases.Dice, x api.PlateCase, tasted cases.Tasting) {
		var changed []int
		for plate, p := range tasted.Plates {
			if p.Before > 0 {
				changed = append(changed, plate)
			}
		}
		fewest := fewestIn(t, x)
		if len(changed) <= api.MaxPlateChanges && fewest > len(changed) {
			t.Errorf("Fewest of %v is %d; of the tasting %v it is %d", x, fewest, tasted, len(changed))
		}
		x.Changes = api.MaxPlateChanges
		if fewest != len(changed) {
			return
		}
		truths[fewest]++
		if named := namedIn(t, x); !cases.Subset(named, changed) {
			t.Errorf("Named of %v is %v; by the truth %v these were changed: %v", x, named, tasted, changed)
		}
		expectTruth(t, x, tasted)
	})
	// a test that saw few truths would say little
	for fewest := range api.MaxPlateChanges + 1 {
		if truths[fewest] < 50 {
			t.Errorf("changed plates in truths, how often: %v", truths)
		}
	}
}

// expectTruth checks that what is said of each judge and plate is so in a truth.
func expectTruth(t *testing.T, x api.PlateCase, truth cases.Tasting) {
	t.Helper()
	for judge, off := range truth.Off {
		if strict := strictIn(t, x, judge); !inside(off, strict) {
			t.Errorf("Strict of %v, %d is %v; in the truth %v it is %d", x, judge, strict, truth, off)
		}
	}
	for plate, p := range truth.Plates {
		refused := api.Surely
		if p.Before > 0 {
			refused = api.Never
		}
		when, changed := whenIn(t, x, plate), changedIn(t, x, plate)
		if changed == refused || p.Before > 0 && !slices.Contains(when, p.Before) {
			t.Errorf("%v, %d: Changed is %d, When %v; the truth is %v", x, plate, changed, when, truth)
		}
		for judge := range truth.Off {
			if quality := qualityIn(t, x, plate, judge); !inside(p.For(judge), quality) {
				t.Errorf("Quality of %v, %d, %d is %v; the truth is %v", x, plate, judge, quality, truth)
			}
		}
	}
}

// P9.13 (more slack)
func TestMoreSlack(t *testing.T) {
	less := 0
	eachCase(func(d *cases.Dice, x api.PlateCase) {
		fewest, slackest := fewestIn(t, x), slackestIn(t, x)
		fits, e := plates.Fits(x)
		if fits != (fewest == 0) || fits != (x.Slack >= slackest) || e != api.OK {
			t.Errorf("%v: Fits = %t, %d; Fewest is %d, Slackest %d", x, fits, e, fewest, slackest)
		}
		for _, change := range []func(x *api.PlateCase){
			func(x *api.PlateCase) { x.Slack += d.Below(api.MaxPlateSlack + 1 - x.Slack) },
			func(x *api.PlateCase) { x.Off += d.Below(api.MaxPlateOff + 1 - x.Off) },
		} {
			more := with(x, change)
			now := fewestIn(t, more)
			still, e := plates.Fits(more)
			if now > fewest || fits && !still || e != api.OK {
				t.Errorf("Fewest of %v is %d; of %v it is %d, and Fits %t, %d", x, fewest, more, now, still, e)
			}
			if now < fewest {
				less++
			}
		}
	})
	if less < 100 {
		t.Errorf("Fewest is less only %d times", less)
	}
}

// P9.14 (one more comes in), and without one of the plates.
func TestOneMoreComesIn(t *testing.T) {
	more, less := 0, 0
	eachCase(func(d *cases.Dice, x api.PlateCase) {
		fewest, slackest := fewestIn(t, x), slackestIn(t, x)
		for _, m := range cases.OpenMarks(x.Show) {
			in := with(x, func(x *api.PlateCase) { x.Show.Plates[m.Plate].Points[m.Judge] = d.Below(api.MaxJudgePoints + 1) })
			nowFewest, nowSlackest := fewestIn(t, in), slackestIn(t, in)
			if nowFewest < fewest || nowSlackest < slackest {
				t.Errorf("%v: Fewest is %d, Slackest %d; of %v they are %d, %d", x, fewest, slackest, in, nowFewest, nowSlackest)
			}
			if nowFewest > fewest && nowSlackest > slackest {
				more++
			}
		}
		for plate := range x.Show.Plates {
			out := without(x, plate)
			nowFewest, nowSlackest := fewestIn(t, out), slackestIn(t, out)
			if nowFewest > fewest || nowSlackest > slackest {
				t.Errorf("%v: Fewest is %d, Slackest %d; of %v they are %d, %d", x, fewest, slackest, out, nowFewest, nowSlackest)
			}
			if nowFewest < fewest && nowSlackest < slackest {
				less++
			}
		}
	})
	if more < 100 || less < 100 {
		t.Errorf("with more points both are more only %d times, without a plate less only %d times", more, less)
	}
}

// without returns a case without a plate.
func without(x api.PlateCase, plate int) api.PlateCase {
	return with(x, func(x *api.PlateCase) { x.Show.Plates = slices.Delete(x.Show.Plates, plate, plate+1) })
}

// P9.15 (backwards)
func TestBackwards(t *testing.T) {
	changes := 0
	eachCase(func(_ *cases.Dice, x api.PlateCase) {
		many := x.Show.Judges
		back := with(x, func(x *api.PlateCase) {
			for _, p := range x.Show.Plates {
				slices.Reverse(p.Points)
			}
		})
		if fewestIn(t, x) != fewestIn(t, back) || slackestIn(t, x) != slackestIn(t, back) {
			t.Errorf("%v: Fewest is %d, Slackest %d; backwards they are %d, %d", x, fewestIn(t, x), slackestIn(t, x), fewestIn(t, back), slackestIn(t, back))
		}
		for judge := range many {
			if strict, other := strictIn(t, x, judge), strictIn(t, back, many-1-judge); strict != other {
				t.Errorf("Strict of %v, %d is %v; backwards it is %v", x, judge, strict, other)
			}
		}
		for plate := range x.Show.Plates {
			if changed, other := changedIn(t, x, plate), changedIn(t, back, plate); changed != other {
				t.Errorf("Changed of %v, %d is %d; backwards it is %d", x, plate, changed, other)
			}
			when := whenIn(t, x, plate)
			var want []int
			for _, judge := range slices.Backward(when) {
				want = append(want, many-judge)
			}
			if other := whenIn(t, back, plate); !slices.Equal(other, want) {
				t.Errorf("When of %v, %d is %v; backwards it is %v", x, plate, when, other)
			}
			changes += len(want)
		}
	})
	if changes < 100 {
		t.Errorf("only %d changes", changes)
	}
}

// P9.16 (any order)
func TestAnyOrder(t *testing.T) {
	truths := 0
	eachCase(func(d *cases.Dice, x api.PlateCase) {
		places := d.Shuffled(len(x.Show.Plates))
		other := with(x, func(x *api.PlateCase) { x.Show.Plates = cases.Pick(x.Show.Plates, places) })
		fits, e := plates.Fits(x)
		fitsToo, f := plates.Fits(other)
		if fits != fitsToo || e != f || fewestIn(t, x) != fewestIn(t, other) || slackestIn(t, x) != slackestIn(t, other) {
			t.Errorf("Fits, Fewest or Slackest of %v are not those of %v", x, other)
		}
		for plate, was := range places {
			if changedIn(t, x, was) != changedIn(t, other, plate) || !slices.Equal(whenIn(t, x, was), whenIn(t, other, plate)) {
				t.Errorf("Changed or When of %v, %d are not those of %v, %d", x, was, other, plate)
			}
			for judge := range x.Show.Judges {
				if qualityIn(t, x, was, judge) != qualityIn(t, other, plate, judge) {
					t.Errorf("Quality of %v, %d, %d is not that of %v, %d", x, was, judge, other, plate)
				}
			}
		}
		for judge := range x.Show.Judges {
			if strictIn(t, x, judge) != strictIn(t, other, judge) {
				t.Errorf("Strict of %v, %d is not that of %v", x, judge, other)
			}
		}
		if named, again := namedIn(t, x), namedIn(t, other); !slices.Equal(cases.Back(again, places), named) {
			t.Errorf("Named of %v is %v; of %v it is %v", x, named, other, again)
		}
		truths += expectSameLeft(t, x, other, places)
	})
	if truths < 300 {
		t.Errorf("only %d cases have truths", truths)
	}
}

// expectSameLeft checks Left and Prizes of a case in another order, and returns 1 if it has a truth.
func expectSameLeft(t *testing.T, x, other api.PlateCase, places []int) int {
	t.Helper()
	left, e := plates.Left(x)
	again, f := plates.Left(other)
	get, miss, g := plates.Prizes(x)
	getAgain, missAgain, h := plates.Prizes(other)
	if e != f || g != h || e != g {
		t.Errorf("Left, Prizes of %v: errors %d, %d; of %v: %d, %d", x, e, g, other, f, h)
	}
	if e != api.OK {
		return 0
	}
	if want := cases.Pick(left.Plates, places); len(want) != len(again.Plates) || len(want) > 0 && !reflect.DeepEqual(again.Plates, want) {
		t.Errorf("Left of %v is %v; of %v it is %v", x, left, other, again)
	}
	if !slices.Equal(cases.Back(getAgain, places), get) || !slices.Equal(cases.Back(missAgain, places), miss) {
		t.Errorf("Prizes of %v are %v, %v; of %v they are %v, %v", x, get, miss, other, getAgain, missAgain)
	}
	return 1
}

// P9.17 (named)
func TestNamed(t *testing.T) {
	many := 0
	eachCase(func(_ *cases.Dice, x api.PlateCase) {
		named, fewest := namedIn(t, x), fewestIn(t, x)
		for _, plate := range named {
			many++
			if now := fewestIn(t, without(x, plate)); now >= fewest {
				t.Errorf("Fewest of %v is %d; without %d, which is named, it is %d", x, fewest, plate, now)
			}
		}
		left, e := plates.Left(x)
		if fewest == 0 && (len(named) > 0 || e != api.OK || !reflect.DeepEqual(left, x.Show)) {
			t.Errorf("%v fits: Named is %v, Left = %v, %d", x, named, left, e)
		}
	})
	if many < 100 {
		t.Errorf("only %d plates are named", many)
	}
}

// P9.18 (stricter)
func TestStricter(t *testing.T) {
	const least, most = 5, 15
	seen, shifted := map[int]int{}, 0
	eachCase(func(d *cases.Dice, x api.PlateCase) {
		x = with(x, func(x *api.PlateCase) {
			x.Off, x.Slack = api.MaxPlateOff, min(x.Slack, d.Below(6))
			for _, p := range x.Show.Plates {
				for judge, points := range p.Points {
					if points != api.JudgeOpen {
						p.Points[judge] = max(least, min(points, most))
					}
				}
			}
		})
		fewest := fewestIn(t, x)
		seen[fewest]++
		for judge := range x.Show.Judges {
			other, by := shift(d, x, judge, least, most)
			if by != 0 {
				shifted++
			}
			if now := fewestIn(t, other); now != fewest {
				t.Errorf("Fewest of %v is %d; with %d more points of the judge %d it is %d", x, fewest, by, judge, now)
			}
			for plate := range x.Show.Plates {
				if changed, now := changedIn(t, x, plate), changedIn(t, other, plate); changed != now {
					t.Errorf("Changed of %v, %d is %d; with %d more points of the judge %d it is %d", x, plate, changed, by, judge, now)
				}
			}
		}
	})
	if seen[0] < 50 || seen[1] < 50 || seen[2] < 10 || shifted < 500 {
		t.Errorf("Fewest, how often: %v; %d judges gave more or fewer points", seen, shifted)
	}
}

// shift returns a case in which all points of a judge are greater by some number, so that they still are from a least to a most one.
func shift(d *cases.Dice, x api.PlateCase, judge, least, most int) (api.PlateCase, int) {
	low, high := most, least
	for _, p := range x.Show.Plates {
		if points := p.Points[judge]; points != api.JudgeOpen {
			low, high = min(low, points), max(high, points)
		}
	}
	if low > high {
		return x, 0
	}
	by := least - low + d.Below(most-high-(least-low)+1)
	return with(x, func(x *api.PlateCase) {
		for _, p := range x.Show.Plates {
			if p.Points[judge] != api.JudgeOpen {
				p.Points[judge] += by
			}
		}
	}), by
}

// lists returns the lists that the functions return.
func lists(x api.PlateCase) [][]int {
	named, _ := plates.Named(x)
	get, miss, _ := plates.Prizes(x)
	all := [][]int{named, get, miss}
	for plate := range x.Show.Plates {
		when, _ := plates.When(x, plate)
		all = append(all, when)
	}
	left, _ := plates.Left(x)
	for _, p := range left.Plates {
		all = append(all, p.Points)
	}
	return all
}

// R4: no argument is changed, not even behind its lists, and no result is a part of one.
func TestNewMemory(t *testing.T) {
	eachCase(func(d *cases.Dice, x api.PlateCase) {
		many, judges := len(x.Show.Plates), x.Show.Judges
		longer := with(x, func(x *api.PlateCase) {
			for plate := range x.Show.Plates {
				x.Show.Plates[plate].Points = append(x.Show.Plates[plate].Points, 98)[:judges]
			}
			x.Show.Plates = append(x.Show.Plates, plate(98, 98))
		})
		was := with(longer, func(x *api.PlateCase) {})
		cut := longer
		cut.Show.Plates = longer.Show.Plates[:many]
		calls(cut, asked{d.Below(many + 1), d.Below(judges)})
		for _, result := range lists(cut) {
			cases.Spoil(result)
		}
		left, _ := plates.Left(cut)
		for at := range left.Plates {
			left.Plates[at] = plate(97)
		}
		if !reflect.DeepEqual(longer, was) {
			t.Errorf("%v came to be %v", was, longer)
		}
		for _, p := range cut.Show.Plates {
			if behind := p.Points[:judges+1][judges]; behind != 98 {
				t.Errorf("%v: behind the points %v came %d", was, p.Points, behind)
			}
		}
	})
}

// The same arguments have the same results, also after results were overwritten.
func TestTheSameAgain(t *testing.T) {
	eachCase(func(d *cases.Dice, x api.PlateCase) {
		cases.ExpectOwnLists(t, func() [][]int { return lists(x) }, x)
		a := asked{d.Below(len(x.Show.Plates) + 1), d.Below(x.Show.Judges)}
		if outcomes, again := calls(x, a), calls(x, a); !slices.Equal(outcomes, again) {
			t.Errorf("%v, %v: %v, and again %v", x, a, outcomes, again)
		}
	})
}

// R3: nil and empty lists are the same.
func TestNilAndEmpty(t *testing.T) {
	of := func(all []api.JudgePlate) api.PlateCase {
		return api.PlateCase{Show: api.JudgeShow{Judges: 2, Prizes: 1, Plates: all}, Off: 1}
	}
	for name, pair := range map[string][2]api.PlateCase{
		"plates": {of(nil), of([]api.JudgePlate{})},
		"points": {of([]api.JudgePlate{{Size: 1}}), of([]api.JudgePlate{plate(1, []int{}...)})},
	} {
		if outcomes, others := calls(pair[0], asked{}), calls(pair[1], asked{}); !slices.Equal(outcomes, others) {
			t.Errorf("%s: %v of nil; %v of empty", name, outcomes, others)
		}
	}
}

// spoilt returns a case of which one thing, or all, is as it comes.
func spoilt(d *cases.Dice, x api.PlateCase) api.PlateCase {
	what := d.Below(5)
	if what == 0 || what == 4 {
		x.Show = d.SpoiltJudgeShow(x.Show)
	}
	if what == 1 || what == 4 {
		x.Off = d.Odd()
	}
	if what == 2 || what == 4 {
		x.Slack = d.Odd()
	}
	if what == 3 || what == 4 {
		x.Changes = d.Odd()
	}
	return x
}

// P1 (DOC.md): every function terminates, and none panics, whatever its arguments are; R2 holds for them, too.
func TestAnyArguments(t *testing.T) {
	eachCase(func(d *cases.Dice, x api.PlateCase) {
		if d.Below(4) > 0 {
			x = spoilt(d, x)
		}
		for range 3 {
			a := asked{d.Odd(), d.Odd()}
			cases.ExpectNothingElse(t, calls(x, a), x, a)
		}
	})
	long := table(20, 9, 2, make([]api.JudgePlate, 1<<20)...)
	cases.ExpectError(t, "many plates", calls(long, asked{}), api.ErrJudge)
	cases.ExpectError(t, "many points", calls(table(20, 9, 2, plate(1, make([]int, 1<<20)...)), asked{}), api.ErrJudge)
}
