package plates_test

import (
	"testing"

	"pippin/api"
	"pippin/cases"
	"pippin/judges"
	"pippin/plates"
)

// agreed returns a show in which all judges give each plate the points of the first one.
func agreed(s api.JudgeShow) api.JudgeShow {
	s = cases.CopyJudgeShow(s)
	for _, p := range s.Plates {
		for judge := range p.Points {
			p.Points[judge] = p.Points[0]
		}
	}
	return s
}

// P0.4 (the judges who agree)
func TestJudgesWhoAgree(t *testing.T) {
	d := cases.Dice(4)
	better := map[int]int{}
	for range 500 {
		s := agreed(d.JudgeShow(1+d.Below(api.MaxJudges), d.Below(api.MaxJudgePlates+1), 0))
		x := api.PlateCase{Show: s, Changes: d.Below(api.MaxPlateChanges + 1)}
		if fits, e := plates.Fits(x); !fits || e != api.OK {
			t.Errorf("Fits of %v = %t, %d", x, fits, e)
		}
		for plate, p := range s.Plates {
			quality := p.Points[0]
			for judge := range s.Judges {
				if is := qualityIn(t, x, plate, judge); is != span(quality, quality) {
					t.Errorf("Quality of %v, %d, %d is %v; the points are %d", x, plate, judge, is, quality)
				}
			}
			total := quality * (s.Judges - 2*s.Drop)
			if is, e := judges.Total(s, plate); is != span(total, total) || e != api.OK {
				t.Errorf("Total of %v, %d = %v, %d; want %d", s, plate, is, e, total)
			}
			expectBetter(t, s, plate, better)
		}
		if decide, e := judges.Decide(s); s.Judges >= 2 && (len(decide) > 0 || e != api.OK) {
			t.Errorf("Decide of %v = %v, %d", s, decide, e)
		}
	}
	// a test that saw few plates of one kind would say little
	if better[api.Surely] < 200 || better[api.Never] < 200 {
		t.Errorf("whether plates are better, how often: %v", better)
	}
}

// expectBetter checks that a plate is surely better than others just if its quality is greater, or its fruits are larger and its quality is the same; it counts what is known.
func expectBetter(t *testing.T, s api.JudgeShow, plate int, seen map[int]int) {
	t.Helper()
	for other, o := range s.Plates {
		if other == plate {
			continue
		}
		p := s.Plates[plate]
		want := p.Points[0] > o.Points[0] || p.Points[0] == o.Points[0] && p.Size > o.Size
		better, e := judges.Better(s, plate, other)
		if (better == api.Surely) != want || e != api.OK {
			t.Errorf("Better of %v, %d, %d = %d, %d; want %t", s, plate, other, better, e, want)
		}
		seen[better]++
	}
}

// P0.5 (the plates that are cleared)
func TestPlatesThatAreCleared(t *testing.T) {
	cleared, others := 0, 0
	eachCase(func(_ *cases.Dice, x api.PlateCase) {
		left, e := plates.Left(x)
		if e != api.OK {
			return
		}
		named := namedIn(t, x)
		show := cases.CopyJudgeShow(x.Show)
		for _, plate := range named {
			for judge := whenIn(t, x, plate)[0]; judge < show.Judges; judge++ {
				show.Plates[plate].Points[judge] = api.JudgeOpen
			}
		}
		if e := judges.Check(show); e != api.OK {
			t.Errorf("Check of %v = %d", show, e)
		}
		fewest, after := fewestIn(t, x), fewestIn(t, api.PlateCase{Show: show, Off: x.Off, Slack: x.Slack, Changes: x.Changes})
		if after > fewest-len(named) {
			t.Errorf("Fewest of %v is %d, Named %v; of %v it is %d", x, fewest, named, left, after)
		}
		if fits, e := plates.Fits(api.PlateCase{Show: left, Off: x.Off, Slack: x.Slack}); len(named) == fewest && (!fits || e != api.OK) {
			t.Errorf("%v has no other changes than those of %v; Fits of %v = %t, %d", x, named, left, fits, e)
		}
		if len(named) == fewest {
			cleared += fewest
		} else {
			others++
		}
		expectKnown(t, x, show)
	})
	if cleared < 100 || others < 20 {
		t.Errorf("%d plates are cleared, and %d cases are not", cleared, others)
	}
}

// expectKnown checks that what Prizes says is known of a show by judges.Prize.
func expectKnown(t *testing.T, x api.PlateCase, show api.JudgeShow) {
	t.Helper()
	get, miss, e := plates.Prizes(x)
	want := make([]int, len(show.Plates))
	for plate := range want {
		want[plate] = api.Perhaps
	}
	for _, plate := range get {
		want[plate] = api.Surely
	}
	for _, plate := range miss {
		want[plate] = api.Never
	}
	for plate := range want {
		if prize, f := judges.Prize(show, plate); prize != want[plate] || e != api.OK || f != api.OK {
			t.Errorf("Prizes of %v = %v, %v, %d; judges.Prize of %v, %d = %d, %d", x, get, miss, e, show, plate, prize, f)
		}
	}
}
