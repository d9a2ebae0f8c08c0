package lost_test

import (
	"reflect"
	"slices"
	"testing"

	"pippin/api"
	"pippin/cases"
	"pippin/lost"
)

func runOf(t *testing.T, x api.LostSearch, took []int, year int) []int {
	t.Helper()
	gardens, e := lost.Run(x, took, year)
	if e != api.OK {
		t.Fatalf("Run of %v, %v, %d: error %d", x, took, year, e)
	}
	return gardens
}

// manyOf returns how many truths there are, which may be none.
func manyOf(t *testing.T, x api.LostSearch) int {
	t.Helper()
	many, e := lost.Many(x)
	if (e == api.OK) != (many > 0) || e != api.OK && e != api.ErrNone {
		t.Fatalf("Many of %v = %d, %d", x, many, e)
	}
	return many
}

func whereOf(t *testing.T, x api.LostSearch, garden, year int) int {
	t.Helper()
	where, e := lost.Where(x, garden, year)
	if e != api.OK {
		t.Fatalf("Where of %v, %d, %d: error %d", x, garden, year, e)
	}
	return where
}

// tookOf calls Took of each gift.
func tookOf(t *testing.T, x api.LostSearch) []int {
	t.Helper()
	var each []int
	for number := range x.Gifts {
		took, e := lost.Took(x, number)
		if e != api.OK {
			t.Fatalf("Took of %v, %d: error %d", x, number, e)
		}
		each = append(each, took)
	}
	return each
}

func sureOf(t *testing.T, x api.LostSearch, year int) (sure, perhaps []int) {
	t.Helper()
	sure, perhaps, e := lost.Sure(x, year)
	if e != api.OK {
		t.Fatalf("Sure of %v, %d: error %d", x, year, e)
	}
	return sure, perhaps
}

// eachWithTruth calls a test with the searches that have a truth.
func eachWithTruth(test func(d *cases.Dice, x api.LostSearch)) {
	some := func(d *cases.Dice, x api.LostSearch) {
		if _, e := lost.Many(x); e == api.OK {
			test(d, x)
		}
	}
	eachSearch(some)
	eachLarge(some)
}

// eachTook calls a test with lists of what took: all of them, or some if there are very many.
func eachTook(d *cases.Dice, x api.LostSearch, test func(took []int)) {
	sets := cases.Sets(len(x.Gifts))
	for _, took := range sets {
		if (len(sets) < 500 || d.Below(50) == 0) && canHaveTaken(x, took) {
			test(took)
		}
	}
}

// P7.12 (each truth)
func TestEachTruth(t *testing.T) {
	eachWithTruth(func(d *cases.Dice, x api.LostSearch) {
		known := tookOf(t, x)
		last, e := lost.Last(x)
		if (e == api.OK) != (len(x.First) > 0) {
			t.Errorf("Last of %v: error %d", x, e)
		}
		truths := truthsOf(t, d, x)
		for _, took := range truths {
			for number, k := range known {
				is := slices.Contains(took, number)
				if is && k == api.Never || !is && k == api.Surely {
					t.Errorf("%v: %v is a truth; Took of %d is %d", x, took, number, k)
				}
			}
			// the last year can be one that cannot be asked for
			if end := endOf(t, x, took); len(x.First) > 0 && (end < min(last.Low, api.MaxLostYear) || end > last.High) {
				t.Errorf("%v: %v is a truth; the sort stands somewhere until %d; Last is %v", x, took, end, last)
			}
		}
		for _, year := range fewYearsOf(d, x, 5) {
			sure, perhaps := sureOf(t, x, year)
			for _, took := range truths {
				if gardens := runOf(t, x, took, year); !cases.Subset(sure, gardens) || !cases.Subset(gardens, slices.Concat(sure, perhaps)) {
					t.Errorf("%v: %v is a truth, and the sort stands in %v in %d; Sure is %v, %v", x, took, gardens, year, sure, perhaps)
				}
			}
		}
	})
}

// truthsOf returns those of the lists of what took with which all looks agree.
func truthsOf(t *testing.T, d *cases.Dice, x api.LostSearch) [][]int {
	t.Helper()
	var truths [][]int
	eachTook(d, x, func(took []int) {
		wrong := func(l api.LostLook) bool {
			return slices.Contains(runOf(t, x, took, l.Year), l.Garden) != (l.Found == 1)
		}
		if !slices.ContainsFunc(x.Looks, wrong) {
			truths = append(truths, took)
		}
	})
	return truths
}

// endOf returns the last year that can be asked for in which the sort stands somewhere.
func endOf(t *testing.T, x api.LostSearch, took []int) int {
	t.Helper()
	year := api.MaxLostYear
	for year > 0 && len(runOf(t, x, took, year)) == 0 {
		year--
	}
	return year
}

// P7.13 (one more look)
func TestOneMoreLook(t *testing.T) {
	eachWithTruth(func(d *cases.Dice, x api.LostSearch) {
		if len(x.Looks) == api.MaxLostLooks {
			return
		}
		many := manyOf(t, x)
		for _, year := range fewYearsOf(d, x, 3) {
			for garden := range x.Gardens {
				left := 0
				for found := range 2 {
					more := seen(x, look(garden, year, found))
					n := manyOf(t, more)
					left += n
					if n > 0 && n < many {
						expectKept(t, x, more, d.Below(api.MaxLostYear+1), year)
					}
				}
				if left != many {
					t.Errorf("%v has %d truths; with a look at %d in %d there are %d", x, many, garden, year, left)
				}
			}
		}
	})
}

// expectKept checks that what is known of a search is known still with more looks.
func expectKept(t *testing.T, x, more api.LostSearch, years ...int) {
	t.Helper()
	now := tookOf(t, more)
	for number, known := range tookOf(t, x) {
		if known != api.Perhaps && now[number] != known {
			t.Errorf("Took of %v, %d is %d; of %v it is %d", x, number, known, more, now[number])
		}
	}
	for _, year := range years {
		for garden := range x.Gardens {
			known, now := whereOf(t, x, garden, year), whereOf(t, more, garden, year)
			if known != api.Perhaps && now != known {
				t.Errorf("Where of %v, %d, %d is %d; of %v it is %d", x, garden, year, known, more, now)
			}
		}
	}
}

// P7.14 (more trees)
func TestMoreTrees(t *testing.T) {
	test := func(d *cases.Dice, x api.LostSearch) {
		years := fewYearsOf(d, x, 6)
		expect := func(more api.LostSearch, took, tookMore []int) {
			if lost.Check(more) != api.OK {
				return
			}
			for _, year := range years {
				if was, is := runOf(t, x, took, year), runOf(t, more, tookMore, year); !cases.Subset(was, is) {
					t.Errorf("Run of %v, %v, %d is %v; of %v, %v it is %v", x, took, year, was, more, tookMore, is)
				}
			}
		}
		eachTook(d, x, func(took []int) {
			for number, g := range x.Gifts {
				if g.Took == api.Perhaps && !slices.Contains(took, number) {
					expect(x, took, slices.Sorted(slices.Values(append(slices.Clone(took), number))))
				}
			}
			expect(with(x, func(x *api.LostSearch) { x.Lives++ }), took, took)
			for garden := range x.Gardens {
				first := slices.Sorted(slices.Values(append(slices.Clone(x.First), garden)))
				expect(with(x, func(x *api.LostSearch) { x.First = first }), took, took)
			}
		})
	}
	eachSearch(test)
}

// P7.15 (any order)
func TestAnyOrder(t *testing.T) {
	eachWithTruth(func(d *cases.Dice, x api.LostSearch) {
		gifts, looks := d.Shuffled(len(x.Gifts)), d.Shuffled(len(x.Looks))
		other := with(x, func(x *api.LostSearch) {
			x.Gifts, x.Looks = cases.Pick(x.Gifts, gifts), cases.Pick(x.Looks, looks)
		})
		last, e := lost.Last(x)
		again, f := lost.Last(other)
		if manyOf(t, x) != manyOf(t, other) || last != again || e != f {
			t.Errorf("Many of %v is %d, Last %v; of %v they are %d, %v", x, manyOf(t, x), last, other, manyOf(t, other), again)
		}
		if was, is := cases.Pick(tookOf(t, x), gifts), tookOf(t, other); !slices.Equal(was, is) {
			t.Errorf("Took of %v is %v of its gifts in another order; of %v it is %v", x, was, other, is)
		}
		for _, year := range fewYearsOf(d, x, 3) {
			expectSameYear(t, x, other, year)
			eachTook(d, other, func(took []int) {
				back := cases.Back(took, gifts)
				if was, is := runOf(t, x, back, year), runOf(t, other, took, year); !slices.Equal(was, is) {
					t.Errorf("Run of %v, %v, %d is %v; of %v, %v it is %v", x, back, year, was, other, took, is)
				}
			})
		}
	})
}

// expectSameYear checks that two searches have the same Where, Way, Sure, Ask and Tour in a year.
func expectSameYear(t *testing.T, x, other api.LostSearch, year int) {
	t.Helper()
	for garden := range x.Gardens {
		if was, is := whereOf(t, x, garden, year), whereOf(t, other, garden, year); was != is {
			t.Errorf("Where of %v, %d, %d is %d; of %v it is %d", x, garden, year, was, other, is)
		}
		way, e := lost.Way(x, garden, year)
		if again, f := lost.Way(other, garden, year); again != way || e != f {
			t.Errorf("Way of %v, %d, %d is %d, %d; of %v it is %d, %d", x, garden, year, way, e, other, again, f)
		}
	}
	sure, perhaps := sureOf(t, x, year)
	if sureToo, perhapsToo := sureOf(t, other, year); !slices.Equal(sure, sureToo) || !slices.Equal(perhaps, perhapsToo) {
		t.Errorf("Sure of %v, %d is %v, %v; of %v it is %v, %v", x, year, sure, perhaps, other, sureToo, perhapsToo)
	}
	ask, e := lost.Ask(x, year)
	if again, f := lost.Ask(other, year); again != ask || e != f {
		t.Errorf("Ask of %v, %d is %d, %d; of %v it is %d, %d", x, year, ask, e, other, again, f)
	}
	tour, e := lost.Tour(x, year)
	if again, f := lost.Tour(other, year); !slices.Equal(again, tour) || e != f {
		t.Errorf("Tour of %v, %d is %v, %d; of %v it is %v, %d", x, year, tour, e, other, again, f)
	}
}

// P7.16 (ask)
func TestAsk(t *testing.T) {
	some := 0
	eachWithTruth(func(d *cases.Dice, x api.LostSearch) {
		for _, year := range fewYearsOf(d, x, 4) {
			ask, e := lost.Ask(x, year)
			if _, perhaps := sureOf(t, x, year); (e == api.OK) != (len(perhaps) > 0) || e == api.OK && !slices.Contains(perhaps, ask) {
				t.Errorf("Ask of %v, %d = %d, %d; perhaps it stands in %v", x, year, ask, e, perhaps)
			}
			if e != api.OK || len(x.Looks) == api.MaxLostLooks {
				continue
			}
			some++
			worst := worstOf(t, x, ask, year)
			if worst >= manyOf(t, x) {
				t.Errorf("Ask of %v, %d = %d, which leaves %d truths of %d", x, year, ask, worst, manyOf(t, x))
			}
			for other := range x.Gardens {
				if n := worstOf(t, x, other, year); n < worst {
					t.Errorf("Ask of %v, %d = %d, which leaves %d truths; %d leaves %d", x, year, ask, worst, other, n)
				}
			}
		}
	})
	// a test that asked seldom would say little
	if some < 100 {
		t.Errorf("only %d gardens were asked", some)
	}
}

// worstOf returns how many truths are left at the most by a look, whatever is found.
func worstOf(t *testing.T, x api.LostSearch, garden, year int) int {
	t.Helper()
	return max(manyOf(t, seen(x, look(garden, year, 0))), manyOf(t, seen(x, look(garden, year, 1))))
}

// P7.17 (tour)
func TestTour(t *testing.T) {
	eachWithTruth(func(d *cases.Dice, x api.LostSearch) {
		for _, year := range fewYearsOf(d, x, 8) {
			sure, perhaps := sureOf(t, x, year)
			tour, e := lost.Tour(x, year)
			if (e == api.OK) != (len(sure)+len(perhaps) > 0) || !cases.Subset(tour, slices.Concat(sure, perhaps)) || len(sure) > 0 && len(tour) != 1 {
				t.Errorf("Tour of %v, %d = %v, %d; Sure is %v, %v", x, year, tour, e, sure, perhaps)
			}
		}
	})
}

// P7.18 (chains)
func TestEachChain(t *testing.T) {
	eachWithTruth(func(d *cases.Dice, x api.LostSearch) {
		for _, year := range fewYearsOf(d, x, 8) {
			for garden := range x.Gardens {
				way, e := lost.Way(x, garden, year)
				chain, f := lost.Chain(x, garden, year)
				is := whereOf(t, x, garden, year) != api.Never
				if len(chain) != way || e != f || is != (e == api.OK) {
					t.Errorf("%v, %d, %d: Way = %d, %d; Chain = %v, %d; there should be one: %t", x, garden, year, way, e, chain, f, is)
				}
				if slices.Contains(x.First, garden) && year < x.Lives && (way != 0 || e != api.OK) {
					t.Errorf("Way of %v, %d, %d = %d, %d", x, garden, year, way, e)
				}
				once := slices.Compact(slices.Sorted(slices.Values(chain)))
				if len(once) != len(chain) {
					t.Errorf("Chain of %v, %d, %d = %v", x, garden, year, chain)
				}
			}
		}
	})
}

// lists returns the lists that the functions return.
func lists(x api.LostSearch, a asked) [][]int {
	stands, _ := lost.Run(x, a.took, a.year)
	sure, perhaps, _ := lost.Sure(x, a.year)
	tour, _ := lost.Tour(x, a.year)
	chain, _ := lost.Chain(x, a.number, a.year)
	return [][]int{stands, sure, perhaps, tour, chain}
}

// throwAsked returns what took, a garden that is perhaps also the number of a gift, and a year.
func throwAsked(d *cases.Dice, x api.LostSearch) asked {
	var took []int
	for number, g := range x.Gifts {
		if g.Took == api.Surely || g.Took == api.Perhaps && d.Below(2) == 0 {
			took = append(took, number)
		}
	}
	return asked{took, d.Below(max(1, x.Gardens)), fewYearsOf(d, x, 1)[0]}
}

// R4: no argument is changed, not even behind its lists, and no result is a part of one.
func TestNewMemory(t *testing.T) {
	eachSearch(func(d *cases.Dice, x api.LostSearch) {
		longer := with(x, func(x *api.LostSearch) {
			x.First, x.Gifts, x.Looks = append(x.First, 98), append(x.Gifts, gift(98, 98, 98, 98)), append(x.Looks, look(98, 98, 98))
		})
		a := throwAsked(d, x)
		took := append(slices.Clone(a.took), 98)
		a.took = took[:len(a.took)]
		was, wasTook := with(longer, func(*api.LostSearch) {}), slices.Clone(took)
		cut := longer
		cut.First, cut.Gifts, cut.Looks = longer.First[:len(x.First)], longer.Gifts[:len(x.Gifts)], longer.Looks[:len(x.Looks)]
		calls(cut, a)
		for _, result := range lists(cut, a) {
			cases.Spoil(result)
		}
		if !reflect.DeepEqual(longer, was) || !slices.Equal(took, wasTook) {
			t.Errorf("%v, %v came to be %v, %v", was, wasTook, longer, took)
		}
	})
}

// The same arguments have the same results, also after results were overwritten.
func TestTheSameAgain(t *testing.T) {
	eachSearch(func(d *cases.Dice, x api.LostSearch) {
		a := throwAsked(d, x)
		cases.ExpectOwnLists(t, func() [][]int { return lists(x, a) }, x, a)
		if outcomes, again := calls(x, a), calls(x, a); !slices.Equal(outcomes, again) {
			t.Errorf("%v: %v, and again %v", x, outcomes, again)
		}
	})
}

// R3: nil and empty lists are the same.
func TestNilAndEmpty(t *testing.T) {
	empty := api.LostSearch{Gardens: 2, Lives: 3, First: []int{}, Gifts: []api.LostGift{}, Looks: []api.LostLook{}}
	outcomes := calls(api.LostSearch{Gardens: 2, Lives: 3}, asked{nil, 1, 2})
	if others := calls(empty, asked{[]int{}, 1, 2}); !slices.Equal(outcomes, others) {
		t.Errorf("%v of empty; %v of nil", others, outcomes)
	}
	outcomes = calls(ring(), asked{nil, 0, 2})
	if others := calls(ring(), asked{[]int{}, 0, 2}); !slices.Equal(outcomes, others) {
		t.Errorf("%v of an empty list of what took; %v of nil", others, outcomes)
	}
}

// spoilt returns a search of which one thing, or all, is as it comes.
func spoilt(d *cases.Dice, x api.LostSearch) api.LostSearch {
	what := d.Below(6)
	if what == 0 || what == 5 {
		x.Gardens = d.Odd()
	}
	if what == 1 || what == 5 {
		x.Lives = d.Odd()
	}
	if what == 2 || what == 5 {
		x.First = d.Odds()
	}
	if what == 3 || what == 5 {
		x.Gifts = nil
		for range d.Below(14) {
			x.Gifts = append(x.Gifts, gift(d.Odd(), d.Odd(), d.Odd(), d.Odd()))
		}
	}
	if what == 4 || what == 5 {
		x.Looks = nil
		for range d.Below(10) {
			x.Looks = append(x.Looks, look(d.Odd(), d.Odd(), d.Odd()))
		}
	}
	return x
}

// P1 (DOC.md): every function terminates, and none panics, whatever its arguments are; R2 holds for them, too.
func TestAnyArguments(t *testing.T) {
	eachSearch(func(d *cases.Dice, x api.LostSearch) {
		if d.Below(4) > 0 {
			x = spoilt(d, x)
		}
		for range 3 {
			a := asked{d.Odds(), d.Odd(), d.Odd()}
			if d.Below(2) == 0 {
				a.took = nil
			}
			cases.ExpectNothingElse(t, calls(x, a), x, a)
		}
	})
	long := api.LostSearch{Gardens: 8, Lives: 9, First: make([]int, 1<<20), Gifts: make([]api.LostGift, 1<<20), Looks: make([]api.LostLook, 1<<20)}
	cases.ExpectError(t, "long lists", calls(long, asked{make([]int, 1<<20), 0, 0}), api.ErrLost)
}
