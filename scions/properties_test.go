package scions_test

import (
	"reflect"
	"slices"
	"testing"

	"pippin/api"
	"pippin/cases"
	"pippin/scions"
)

// numberOf calls Most or Safe.
func numberOf(t *testing.T, call func(l api.ScionList) (int, api.Errno), l api.ScionList) int {
	t.Helper()
	n, e := call(l)
	if e != api.OK {
		t.Fatalf("%v: error %d", l, e)
	}
	return n
}

// eachOf calls Alone of each sort, or Place of each garden.
func eachOf(t *testing.T, call func(l api.ScionList, number int) (int, api.Errno), l api.ScionList, many int) []int {
	t.Helper()
	var each []int
	for number := range many {
		n, e := call(l, number)
		if e != api.OK {
			t.Fatalf("%v, %d: error %d", l, number, e)
		}
		each = append(each, n)
	}
	return each
}

func aloneOf(t *testing.T, l api.ScionList) []int {
	t.Helper()
	return eachOf(t, scions.Alone, l, len(l.Scions))
}

func placeOf(t *testing.T, l api.ScionList) []int {
	t.Helper()
	return eachOf(t, scions.Place, l, len(l.Gardens))
}

// numbersOf calls Best, Give, Save or Weak.
func numbersOf(t *testing.T, call func(l api.ScionList) ([]int, api.Errno), l api.ScionList) []int {
	t.Helper()
	numbers, e := call(l)
	if e != api.OK {
		t.Fatalf("%v: error %d", l, e)
	}
	return numbers
}

func isFit(t *testing.T, l api.ScionList, gift []int) bool {
	t.Helper()
	fits, e := scions.Fits(l, gift)
	if e != api.OK {
		t.Fatalf("%v, %v: error %d", l, gift, e)
	}
	return fits
}

func lostBy(t *testing.T, l api.ScionList, gift []int, frost int) []int {
	t.Helper()
	lost, e := scions.Lost(l, gift, frost)
	if e != api.OK {
		t.Fatalf("%v, %v, %d: error %d", l, gift, frost, e)
	}
	return lost
}

// P6.12 (each gift)
func TestEachGift(t *testing.T) {
	eachList(func(_ *cases.Dice, l api.ScionList) {
		most, best, safe, alone := numberOf(t, scions.Most, l), numbersOf(t, scions.Best, l), numberOf(t, scions.Safe, l), aloneOf(t, l)
		for _, gift := range cases.Sets(len(l.Wants)) {
			if !isFit(t, l, gift) {
				continue
			}
			counts := countsOf(l, gift)
			if len(gift) > most || slices.Compare(counts, best) > 0 || safeOf(l, gift) > safe {
				t.Errorf("%v: %v fits; Most is %d, Best %v, Safe %d", l, gift, most, best, safe)
			}
			for sort, often := range counts {
				if often > alone[sort] {
					t.Errorf("%v: %v fits; Alone of %d is %d", l, gift, sort, alone[sort])
				}
			}
			for _, places := range cases.Sets(len(gift)) {
				if part := cases.Pick(gift, places); !isFit(t, l, part) {
					t.Errorf("%v: %v fits, but %v does not", l, gift, part)
				}
			}
		}
	})
}

// P6.13 (the rarest first)
func TestTheRarestFirst(t *testing.T) {
	test := func(_ *cases.Dice, l api.ScionList) {
		most, best, alone := numberOf(t, scions.Most, l), numbersOf(t, scions.Best, l), aloneOf(t, l)
		if len(best) != len(l.Scions) || cases.Sum(best) > most || most > cases.Sum(alone) {
			t.Errorf("%v: Best is %v, Most %d, Alone %v", l, best, most, alone)
		}
		if len(best) > 0 && best[0] != alone[0] {
			t.Errorf("%v: Best is %v, Alone %v", l, best, alone)
		}
	}
	eachList(test)
	eachLarge(test)
}

// P6.14 (one more): scions and places.
func TestOneMore(t *testing.T) {
	expect := func(l, more api.ScionList, by api.Span) {
		if scions.Check(more) != api.OK {
			return
		}
		was, is := numberOf(t, scions.Most, l), numberOf(t, scions.Most, more)
		if is < was+by.Low || is > was+by.High {
			t.Errorf("Most of %v is %d; of %v it is %d", l, was, more, is)
		}
		if best, better := numbersOf(t, scions.Best, l), numbersOf(t, scions.Best, more); slices.Compare(best, better) > 0 {
			t.Errorf("Best of %v is %v; of %v it is %v", l, best, more, better)
		}
	}
	test := func(_ *cases.Dice, l api.ScionList) {
		for sort := range l.Scions {
			expect(l, with(l, func(l *api.ScionList) { l.Scions[sort]++ }), api.Span{Low: 0, High: 1})
		}
		for garden, by := range placeOf(t, l) {
			if by < 0 || by > 1 {
				t.Errorf("Place of %v, %d is %d", l, garden, by)
			}
			expect(l, with(l, func(l *api.ScionList) { l.Gardens[garden].Places++ }), api.Span{Low: by, High: by})
		}
	}
	eachList(test)
	eachLarge(test)
}

// P6.6: a garden that can have no more places gains nothing by one, since it asks for no more sorts.
func TestPlaceOfAFullGarden(t *testing.T) {
	eachList(func(_ *cases.Dice, l api.ScionList) {
		for garden := range l.Gardens {
			most := with(l, func(l *api.ScionList) { l.Gardens[garden].Places = api.MaxScionPlaces })
			if n, e := scions.Place(most, garden); n != 0 || e != api.OK {
				t.Errorf("Place of %v, %d = %d, %d", most, garden, n, e)
			}
		}
	})
}

// P6.14 (one more): wants.
func TestOneMoreWant(t *testing.T) {
	test := func(_ *cases.Dice, l api.ScionList) {
		for at := range l.Wants {
			fewer := with(l, func(l *api.ScionList) { l.Wants = slices.Delete(l.Wants, at, at+1) })
			if n, m := numberOf(t, scions.Most, fewer), numberOf(t, scions.Most, l); n > m {
				t.Errorf("Most of %v is %d; of %v it is %d", fewer, n, l, m)
			}
			if n, m := numberOf(t, scions.Safe, fewer), numberOf(t, scions.Safe, l); n > m {
				t.Errorf("Safe of %v is %d; of %v it is %d", fewer, n, l, m)
			}
			alone := aloneOf(t, l)
			for sort, n := range aloneOf(t, fewer) {
				if n > alone[sort] {
					t.Errorf("Alone of %v, %d is %d; of %v it is %d", fewer, sort, n, l, alone[sort])
				}
			}
		}
	}
	eachList(test)
	eachLarge(test)
}

// P6.15 (the frost)
func TestTheFrost(t *testing.T) {
	eachList(func(_ *cases.Dice, l api.ScionList) {
		for _, gift := range cases.Sets(len(l.Wants)) {
			if isFit(t, l, gift) {
				expectFrosts(t, l, gift)
			}
		}
	})
}

// expectFrosts checks what each frost takes of a gift that fits.
func expectFrosts(t *testing.T, l api.ScionList, gift []int) {
	t.Helper()
	counts := countsOf(l, gift)
	for frost := range api.MaxFrosts {
		taken := make([]int, len(l.Scions))
		for _, number := range gift {
			if w := l.Wants[number]; l.Gardens[w.Garden].Frost == frost {
				taken[w.Sort]++
			}
		}
		lost := lostBy(t, l, gift, frost)
		for sort, many := range taken {
			is := slices.Contains(lost, sort)
			if many > 1 || is != (many == 1 && counts[sort] == 1) || is && counts[sort] >= 2 {
				t.Errorf("%v: of %v, which fits, the frost %d takes %v; Lost is %v", l, gift, frost, taken, lost)
			}
		}
	}
}

// turned returns a list whose gardens and wants come in another order, and whose frosts have other numbers.
func turned(l api.ScionList, gardens, wants, frosts []int) api.ScionList {
	return with(l, func(l *api.ScionList) {
		l.Gardens, l.Wants = cases.Pick(l.Gardens, gardens), cases.Pick(l.Wants, wants)
		for at, g := range l.Gardens {
			l.Gardens[at].Frost = frosts[g.Frost]
		}
		for at, w := range l.Wants {
			l.Wants[at].Garden = slices.Index(gardens, w.Garden)
		}
	})
}

// P6.16 (any order): of gardens, wants and frosts.
func TestAnyOrder(t *testing.T) {
	test := func(d *cases.Dice, l api.ScionList) {
		gardens, wants, frosts := d.Shuffled(len(l.Gardens)), d.Shuffled(len(l.Wants)), d.Shuffled(api.MaxFrosts)
		other := turned(l, gardens, wants, frosts)
		expectNumbers(t, l, other)
		if n, m := aloneOf(t, l), aloneOf(t, other); !slices.Equal(n, m) {
			t.Errorf("Alone of %v is %v; of %v it is %v", l, n, other, m)
		}
		if n, m := cases.Pick(placeOf(t, l), gardens), placeOf(t, other); !slices.Equal(n, m) {
			t.Errorf("Place of %v is %v of its gardens in another order; of %v it is %v", l, n, other, m)
		}
		if n, m := numbersOf(t, scions.Best, l), numbersOf(t, scions.Best, other); !slices.Equal(n, m) {
			t.Errorf("Best of %v is %v; of %v it is %v", l, n, other, m)
		}
		if n, back := numbersOf(t, scions.Weak, l), cases.Back(numbersOf(t, scions.Weak, other), gardens); !slices.Equal(n, back) {
			t.Errorf("Weak of %v is %v; of %v it is %v of these", l, n, other, back)
		}
		for range 20 {
			expectTurned(t, l, other, throwGift(d, l), wants, frosts)
		}
	}
	eachList(test)
	eachLarge(test)
}

// throwGift returns some wants, so few that they often fit.
func throwGift(d *cases.Dice, l api.ScionList) []int {
	many := d.Below(min(4, len(l.Wants)) + 1)
	return slices.Sorted(slices.Values(d.Shuffled(len(l.Wants))[:many]))
}

// expectNumbers checks that two lists have the same Most and Safe.
func expectNumbers(t *testing.T, l, other api.ScionList) {
	t.Helper()
	most, safe := numberOf(t, scions.Most, l), numberOf(t, scions.Safe, l)
	if n, m := numberOf(t, scions.Most, other), numberOf(t, scions.Safe, other); n != most || m != safe {
		t.Errorf("Most of %v is %d, Safe %d; of %v they are %d and %d", l, most, safe, other, n, m)
	}
}

// expectTurned checks that Fits and Lost of a gift are the same when its wants have other places, and its frosts other numbers.
func expectTurned(t *testing.T, l, other api.ScionList, gift, wants, frosts []int) {
	t.Helper()
	back := cases.Back(gift, wants)
	is := isFit(t, l, back)
	if isFit(t, other, gift) != is {
		t.Errorf("Fits of %v, %v is %t, but not of %v, %v", l, back, is, other, gift)
		return
	}
	for frost, now := range frosts {
		lost, e := scions.Lost(l, back, frost)
		if again, f := scions.Lost(other, gift, now); !slices.Equal(lost, again) || e != f || is != (e == api.OK) {
			t.Errorf("Lost of %v, %v, %d is %v, %d; of %v, %v, %d it is %v, %d", l, back, frost, lost, e, other, gift, now, again, f)
		}
	}
}

// P6.16 (any order): of the sorts.
func TestAnyOrderOfSorts(t *testing.T) {
	test := func(d *cases.Dice, l api.ScionList) {
		sorts := d.Shuffled(len(l.Scions))
		other := with(l, func(l *api.ScionList) {
			l.Scions = cases.Pick(l.Scions, sorts)
			for at, w := range l.Wants {
				l.Wants[at].Sort = slices.Index(sorts, w.Sort)
			}
		})
		expectNumbers(t, l, other)
		if n, m := cases.Pick(aloneOf(t, l), sorts), aloneOf(t, other); !slices.Equal(n, m) {
			t.Errorf("Alone of %v is %v of its sorts in another order; of %v it is %v", l, n, other, m)
		}
	}
	eachList(test)
	eachLarge(test)
}

// lists returns the lists that the functions return.
func lists(l api.ScionList, gift []int) [][]int {
	lost, _ := scions.Lost(l, gift, 0)
	best, _ := scions.Best(l)
	give, _ := scions.Give(l)
	save, _ := scions.Save(l)
	weak, _ := scions.Weak(l)
	return [][]int{lost, best, give, save, weak}
}

// R4: no argument is changed, not even behind its lists, and no result is a part of one.
func TestNewMemory(t *testing.T) {
	eachList(func(d *cases.Dice, l api.ScionList) {
		longer := with(l, func(l *api.ScionList) {
			l.Scions, l.Gardens, l.Wants = append(l.Scions, 98), append(l.Gardens, garden(98, 98)), append(l.Wants, want(98, 98))
		})
		gift := append(throwGift(d, l), 98)
		was, wasGift := with(longer, func(*api.ScionList) {}), slices.Clone(gift)
		short := api.ScionList{Scions: longer.Scions[:len(l.Scions)], Gardens: longer.Gardens[:len(l.Gardens)], Wants: longer.Wants[:len(l.Wants)]}
		for number := range 5 {
			calls(short, asked{gift[:len(gift)-1], number})
		}
		for _, result := range lists(short, gift[:len(gift)-1]) {
			cases.Spoil(result)
		}
		if !reflect.DeepEqual(longer, was) || !slices.Equal(gift, wasGift) {
			t.Errorf("%v, %v came to be %v, %v", was, wasGift, longer, gift)
		}
	})
}

// The same arguments have the same results, also after results were overwritten.
func TestTheSameAgain(t *testing.T) {
	eachList(func(d *cases.Dice, l api.ScionList) {
		gift := throwGift(d, l)
		cases.ExpectOwnLists(t, func() [][]int { return lists(l, gift) }, l, gift)
		x := asked{gift, 0}
		if outcomes, again := calls(l, x), calls(l, x); !slices.Equal(outcomes, again) {
			t.Errorf("%v: %v, and again %v", l, outcomes, again)
		}
	})
}

// R3: nil and empty lists are the same.
func TestNilAndEmpty(t *testing.T) {
	outcomes := calls(api.ScionList{}, asked{})
	if others := calls(listOf([]int{}, []api.ScionGarden{}, []api.ScionWant{}...), asked{[]int{}, 0}); !slices.Equal(outcomes, others) {
		t.Errorf("%v of empty; %v of nil", others, outcomes)
	}
	outcomes = calls(listP(), asked{})
	if others := calls(listP(), asked{[]int{}, 0}); !slices.Equal(outcomes, others) {
		t.Errorf("%v of an empty gift; %v of nil", others, outcomes)
	}
}

// spoilt returns a list of which one thing, or all, is as it comes.
func spoilt(d *cases.Dice, l api.ScionList) api.ScionList {
	what := d.Below(4)
	if what == 0 || what == 3 {
		l.Scions = d.Odds()
	}
	if what == 1 || what == 3 {
		l.Gardens = nil
		for range d.Below(7) {
			l.Gardens = append(l.Gardens, garden(d.Odd(), d.Odd()))
		}
	}
	if what == 2 || what == 3 {
		l.Wants = nil
		for range d.Below(14) {
			l.Wants = append(l.Wants, want(d.Odd(), d.Odd()))
		}
	}
	return l
}

// P1 (DOC.md): every function terminates, and none panics, whatever its arguments are; R2 holds for them, too.
func TestAnyArguments(t *testing.T) {
	eachList(func(d *cases.Dice, l api.ScionList) {
		if d.Below(4) > 0 {
			l = spoilt(d, l)
		}
		for range 3 {
			x := asked{d.Odds(), d.Odd()}
			if d.Below(2) == 0 {
				x.gift = nil
			}
			cases.ExpectNothingElse(t, calls(l, x), l, x)
		}
	})
	long := listOf(make([]int, 1<<20), make([]api.ScionGarden, 1<<20), make([]api.ScionWant, 1<<20)...)
	cases.ExpectError(t, "long lists", calls(long, asked{make([]int, 1<<20), 0}), api.ErrScion)
}
