package marks_test

import (
	"slices"
	"testing"

	"pippin/api"
	"pippin/cases"
	"pippin/marks"
)

// truths are those in which no more values are wrong than can be.
func truths(b api.MarkBook, fruits [][]int) []cases.MarkTruth {
	return slices.DeleteFunc(cases.AllMarkTruths(b, fruits), func(x cases.MarkTruth) bool { return x.Wrong > b.Wrong })
}

func sortsOf(all []cases.MarkTruth) []int {
	var sorts []int
	for _, x := range all {
		sorts = append(sorts, x.Sort)
	}
	slices.Sort(sorts)
	return slices.Compact(sorts)
}

// eachCase calls a test with many small cases, all of them valid, with none, one or several of everything.
func eachCase(test func(d *cases.Dice, b api.MarkBook, fruits [][]int)) {
	d := cases.Dice(1)
	for range 1500 {
		b := d.MarkBook(4, 5)
		var fruits [][]int
		for range d.Below(4) {
			fruits = append(fruits, d.Fruit(b, 3))
		}
		test(&d, b, fruits)
	}
}

// P1.2 to P1.7: what all truths say, written down one by one.
func TestAgainstAllTruths(t *testing.T) {
	eachCase(func(_ *cases.Dice, b api.MarkBook, fruits [][]int) {
		all, can := cases.AllMarkTruths(b, fruits), truths(b, fruits)
		compareWrong(t, b, fruits, all)
		want, none := sortsOf(can), api.OK
		if len(can) == 0 {
			none = api.ErrNone
		}
		if sorts, e := marks.Sorts(b, fruits); !slices.Equal(sorts, want) || e != none {
			t.Errorf("Sorts of %v, %v = %v, %d; want %v", b, fruits, sorts, e, want)
		}
		for sort := range b.Sorts {
			known := api.Perhaps
			switch {
			case len(can) == 0:
				known = 0
			case !slices.Contains(want, sort):
				known = api.Never
			case len(want) == 1:
				known = api.Surely
			}
			if n, e := marks.Is(b, fruits, sort); n != known || e != none {
				t.Errorf("Is of %v, %v, %d = %d, %d; want %d", b, fruits, sort, n, e, known)
			}
		}
		compareValues(t, b, fruits, can, none)
	})
}

func compareWrong(t *testing.T, b api.MarkBook, fruits [][]int, all []cases.MarkTruth) {
	t.Helper()
	fewest := api.MaxMarks * api.MaxMarkFruits
	for sort := range b.Sorts {
		least := api.MaxMarks * api.MaxMarkFruits
		for _, x := range all {
			if x.Sort == sort {
				least = min(least, x.Wrong)
			}
		}
		fewest = min(fewest, least)
		if n, e := marks.Wrong(b, fruits, sort); n != least || e != api.OK {
			t.Errorf("Wrong of %v, %v, %d = %d, %d; want %d", b, fruits, sort, n, e, least)
		}
	}
	if n, e := marks.Fewest(b, fruits); len(b.Sorts) > 0 && (n != fewest || e != api.OK) || len(b.Sorts) == 0 && (n != 0 || e != api.ErrNone) {
		t.Errorf("Fewest of %v, %v = %d, %d; want %d", b, fruits, n, e, fewest)
	}
}

func compareValues(t *testing.T, b api.MarkBook, fruits [][]int, can []cases.MarkTruth, none api.Errno) {
	t.Helper()
	var wrong []api.MarkPlace
	for fruit, seen := range fruits {
		for mark := range b.Values {
			var want []int
			for _, x := range can {
				want = append(want, x.Real[fruit][mark])
			}
			slices.Sort(want)
			want = slices.Compact(want)
			if values, e := marks.Values(b, fruits, place(fruit, mark)); !slices.Equal(values, want) || e != none {
				t.Errorf("Values of %v, %v, %d %d = %v, %d; want %v", b, fruits, fruit, mark, values, e, want)
			}
			if seen[mark] != not && len(can) > 0 && !slices.Contains(want, seen[mark]) {
				wrong = append(wrong, place(fruit, mark))
			}
		}
	}
	if found, e := marks.Mistakes(b, fruits); !slices.Equal(found, wrong) || e != none {
		t.Errorf("Mistakes of %v, %v = %v, %d; want %v", b, fruits, found, e, wrong)
	}
}

// P1.8, P1.9: each value of a mark is tried.
func TestAfterAgainstAllTruths(t *testing.T) {
	eachCase(func(_ *cases.Dice, b api.MarkBook, fruits [][]int) {
		left := len(sortsOf(truths(b, fruits)))
		for fruit, seen := range fruits {
			best, least := not, 0
			for mark, values := range b.Values {
				most, want := 0, api.ErrArg
				if seen[mark] == not {
					want = api.ErrNone
				}
				if seen[mark] == not && left > 0 {
					want = api.OK
					for value := range values {
						most = max(most, len(sortsOf(truths(b, seeing(fruits, fruit, mark, value)))))
					}
					if best == not || most < least {
						best, least = mark, most
					}
				}
				if n, e := marks.After(b, fruits, place(fruit, mark)); n != most || e != want {
					t.Errorf("After of %v, %v, %d %d = %d, %d; want %d, %d", b, fruits, fruit, mark, n, e, most, want)
				}
			}
			next, e := marks.Next(b, fruits, fruit)
			if best == not || left < 2 {
				if next != 0 || e != api.ErrNone {
					t.Errorf("Next of %v, %v, %d = %d, %d; want ErrNone", b, fruits, fruit, next, e)
				}
			} else if next != best || e != api.OK {
				t.Errorf("Next of %v, %v, %d = %d, %d; want %d", b, fruits, fruit, next, e, best)
			}
		}
	})
}

// seeing returns the fruits with one more value.
func seeing(fruits [][]int, fruit, mark, value int) [][]int {
	more := cases.CopyRows(fruits)
	more[fruit][mark] = value
	return more
}
