package plates_test

import (
	"reflect"
	"slices"
	"testing"

	"pippin/api"
	"pippin/cases"
	"pippin/judges"
	"pippin/plates"
)

// tasting is by how much each judge is off, the judge before whom each plate was changed (0: it was not), and with which first and second qualities of each plate the points fit.
type tasting struct {
	off, before []int
	qualities   [][2][]int
}

// which says whether a plate has its first (0) or its second quality (1) for a judge.
func (t tasting) which(plate, judge int) int {
	if before := t.before[plate]; before == 0 || judge < before {
		return 0
	}
	return 1
}

// begun is a tasting that no judge has tasted.
func begun(before []int) tasting {
	t := tasting{before: before}
	var all []int
	for quality := range api.MaxJudgePoints + 1 {
		all = append(all, quality)
	}
	for range before {
		t.qualities = append(t.qualities, [2][]int{all, all})
	}
	return t
}

// tasted returns a tasting that one more judge has tasted, who is off by a number, if the points fit.
func tasted(x api.PlateCase, t tasting, off int) (tasting, bool) {
	judge := len(t.off)
	t.off = append(slices.Clone(t.off), off)
	t.qualities = slices.Clone(t.qualities)
	for plate, p := range x.Show.Plates {
		points := p.Points[judge]
		if points == api.JudgeOpen {
			continue
		}
		var left []int
		which := t.which(plate, judge)
		for _, quality := range t.qualities[plate][which] {
			if differ := points - (quality + off); -x.Slack <= differ && differ <= x.Slack {
				left = append(left, quality)
			}
		}
		if len(left) == 0 {
			return tasting{}, false
		}
		t.qualities[plate][which] = left
	}
	return t, true
}

// eachTasting calls a function with all tastings that begin like one and in which the points fit, until it says no; then it does so, too.
func eachTasting(x api.PlateCase, t tasting, found func(t tasting) bool) bool {
	if len(t.off) == x.Show.Judges {
		return found(t)
	}
	for off := -x.Off; off <= x.Off; off++ {
		if next, fits := tasted(x, t, off); fits && !eachTasting(x, next, found) {
			return false
		}
	}
	return true
}

// allChanges returns the judges before whom plates can have been changed, for each way in which so many of them were.
func allChanges(x api.PlateCase, many int) [][]int {
	all := cases.AllBelow(slices.Repeat(list(x.Show.Judges), len(x.Show.Plates)))
	return slices.DeleteFunc(all, func(before []int) bool {
		changed := slices.DeleteFunc(slices.Clone(before), func(judge int) bool { return judge == 0 })
		return len(changed) != many
	})
}

// told is what all tastings with the fewest changes say; fewest is below 0 if there are none.
type told struct {
	fewest, many int
	changed      []int
	when         [][]int
	strict       []api.Span
	quality      [][]api.Span
}

// tell writes all these tastings down.
func tell(x api.PlateCase) told {
	for many := range api.MaxPlateChanges + 1 {
		all := told{fewest: many, changed: make([]int, len(x.Show.Plates)), when: make([][]int, len(x.Show.Plates))}
		all.strict = slices.Repeat([]api.Span{span(99, -99)}, x.Show.Judges)
		for range x.Show.Plates {
			all.quality = append(all.quality, slices.Clone(all.strict))
		}
		for _, before := range allChanges(x, many) {
			eachTasting(x, begun(before), func(t tasting) bool {
				all.add(t)
				return true
			})
		}
		if all.many > 0 {
			return all
		}
	}
	return told{fewest: -1}
}

// wider returns a span with two numbers more in it.
func wider(s api.Span, low, high int) api.Span {
	return span(min(s.Low, low), max(s.High, high))
}

func (all *told) add(t tasting) {
	all.many++
	for judge, off := range t.off {
		all.strict[judge] = wider(all.strict[judge], off, off)
	}
	for plate, before := range t.before {
		if before > 0 {
			all.changed[plate]++
			if !slices.Contains(all.when[plate], before) {
				all.when[plate] = append(all.when[plate], before)
			}
		}
		for judge := range t.off {
			of := t.qualities[plate][t.which(plate, judge)]
			all.quality[plate][judge] = wider(all.quality[plate][judge], slices.Min(of), slices.Max(of))
		}
	}
}

// known says what all truths together say of a plate.
func (all told) known(plate int) int {
	switch all.changed[plate] {
	case all.many:
		return api.Surely
	case 0:
		return api.Never
	}
	return api.Perhaps
}

// named returns the plates that are changed in each truth.
func (all told) named() []int {
	var named []int
	for plate := range all.changed {
		if all.known(plate) == api.Surely {
			named = append(named, plate)
		}
	}
	return named
}

// left returns the show without the points that P9.10 says.
func (all told) left(s api.JudgeShow) api.JudgeShow {
	s = cases.CopyJudgeShow(s)
	for _, plate := range all.named() {
		for judge := slices.Min(all.when[plate]); judge < s.Judges; judge++ {
			s.Plates[plate].Points[judge] = api.JudgeOpen
		}
	}
	return s
}

// greatestOff has, for each number of judges, an Off with which there are only some hundred ways in which they can be off.
var greatestOff = [...]int{0, 20, 13, 4, 2, 1}

// eachWritten calls a test with cases of which all tastings can be written down, whatever they are.
func eachWritten(test func(x api.PlateCase)) {
	d := cases.Dice(90)
	for _, x := range []api.PlateCase{bare(1, 3, 0, 0), caseX(0, 1), caseX(0, 0), caseX(1, 2), caseX(2, 0), either(1), either(0), both(2), both(1), three(), twice()} {
		test(x)
	}
	for number := range 1600 {
		many, of, open := 1+d.Below(api.MaxJudges), d.Below(api.MaxJudgePlates+1), d.Below(5)
		off := d.Below(greatestOff[many] + 1)
		x, _ := d.TastedCase(many, of, open, off, d.Below(1+d.Below(4)), d.Below(4))
		// points that come as they do need more changes than others
		if number%4 == 0 {
			x.Show = d.JudgeShow(many, of, open)
		}
		test(x)
	}
	// with few judges and plates it is seldom known which plate was changed
	for range 400 {
		many, of := 2+d.Below(2), 2+d.Below(3)
		x, _ := d.TastedCase(many, of, d.Below(2), greatestOff[many], 0, 1+d.Below(2))
		test(x)
	}
}

// eachWrittenLarge calls a test with cases that have as many judges and as great an Off as there can be, and of which all tastings can be written down, since the points say much.
func eachWrittenLarge(test func(x api.PlateCase)) {
	d := cases.Dice(91)
	for range 40 {
		of := 3 + d.Below(api.MaxJudgePlates-2)
		x, _ := d.TastedCase(api.MaxJudges, of, d.Below(4), api.MaxPlateOff, 0, d.Below(3))
		test(x)
	}
}

// P9.2, P9.3, P9.5 to P9.11: what all tastings say, written down one by one.
func TestAgainstAllTastings(t *testing.T) {
	seen, known := map[int]int{}, map[int]int{}
	test := func(x api.PlateCase) {
		all := tell(x)
		seen[all.fewest]++
		if fits, e := plates.Fits(x); fits != (all.fewest == 0) || e != api.OK {
			t.Errorf("Fits of %v = %t, %d; the fewest changes are %d", x, fits, e, all.fewest)
		}
		expectNumber(t, "Fewest", plates.Fewest, x, all.fewest)
		if all.fewest < 0 || all.fewest > x.Changes {
			cases.ExpectError(t, "no truth", calls(x, asked{0, 0}), api.ErrNone, "Named", "Strict", "Left", "Prizes")
			if len(x.Show.Plates) > 0 {
				cases.ExpectError(t, "no truth", calls(x, asked{0, 0}), api.ErrNone, "Changed", "When", "Quality")
			}
			return
		}
		expectTold(t, x, all)
		for plate := range x.Show.Plates {
			known[all.known(plate)]++
		}
	}
	eachWritten(test)
	eachWrittenLarge(test)
	// a test that saw few of one kind would say little
	for fewest := -1; fewest <= api.MaxPlateChanges; fewest++ {
		if seen[fewest] < 100 {
			t.Errorf("the fewest changes, how often: %v", seen)
		}
	}
	if known[api.Surely] < 100 || known[api.Never] < 100 || known[api.Perhaps] < 100 {
		t.Errorf("what is known of plates, how often: %v", known)
	}
}

// expectTold checks what is said of the plates and judges of a case that has truths.
func expectTold(t *testing.T, x api.PlateCase, all told) {
	t.Helper()
	for plate := range x.Show.Plates {
		if changed, e := plates.Changed(x, plate); changed != all.known(plate) || e != api.OK {
			t.Errorf("Changed of %v, %d = %d, %d; want %d", x, plate, changed, e, all.known(plate))
		}
		want := slices.Sorted(slices.Values(all.when[plate]))
		when, e := plates.When(x, plate)
		if !slices.Equal(when, want) || (e == api.OK) != (len(want) > 0) || e != api.OK && e != api.ErrNone {
			t.Errorf("When of %v, %d = %v, %d; want %v", x, plate, when, e, want)
		}
		for judge, want := range all.quality[plate] {
			if quality, e := plates.Quality(x, plate, judge); quality != want || e != api.OK {
				t.Errorf("Quality of %v, %d, %d = %v, %d; want %v", x, plate, judge, quality, e, want)
			}
		}
	}
	for judge, want := range all.strict {
		if strict, e := plates.Strict(x, judge); strict != want || e != api.OK {
			t.Errorf("Strict of %v, %d = %v, %d; want %v", x, judge, strict, e, want)
		}
	}
	if named, e := plates.Named(x); !slices.Equal(named, all.named()) || e != api.OK {
		t.Errorf("Named of %v = %v, %d; want %v", x, named, e, all.named())
	}
	want := all.left(x.Show)
	if left, e := plates.Left(x); !reflect.DeepEqual(left, want) || e != api.OK {
		t.Errorf("Left of %v = %v, %d; want %v", x, left, e, want)
	}
	wantGet, wantMiss, _ := judges.Sure(want)
	if get, miss, e := plates.Prizes(x); !slices.Equal(get, wantGet) || !slices.Equal(miss, wantMiss) || e != api.OK {
		t.Errorf("Prizes of %v = %v, %v, %d; want %v, %v", x, get, miss, e, wantGet, wantMiss)
	}
}

// P9.4: the least slack of all of them, with which there is a tasting without changes.
func TestSlackestAgainstAllTastings(t *testing.T) {
	seen := map[int]int{}
	eachWritten(func(x api.PlateCase) {
		slackest := -1
		for slack := api.MaxPlateSlack; slack >= 0; slack-- {
			x.Slack = slack
			none := eachTasting(x, begun(make([]int, len(x.Show.Plates))), func(tasting) bool { return false })
			if none {
				break
			}
			slackest = slack
		}
		seen[slackest]++
		expectNumber(t, "Slackest", plates.Slackest, x, slackest)
	})
	if seen[-1] < 3 || seen[0] < 100 || seen[1] < 100 || seen[api.MaxPlateSlack] < 3 {
		t.Errorf("Slackest, how often: %v", seen)
	}
}
