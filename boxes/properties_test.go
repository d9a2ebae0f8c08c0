package boxes_test

import (
	"reflect"
	"slices"
	"testing"

	"pippin/api"
	"pippin/boxes"
	"pippin/cases"
	"pippin/marks"
)

// canBe, number and known are for valid boxes: no error but ErrNone.
func canBe(t *testing.T, x api.Box) [][]int {
	t.Helper()
	partings, e := boxes.Partings(x)
	if e != api.OK && e != api.ErrNone {
		t.Fatalf("Partings of %v: error %d", x, e)
	}
	return partings
}

func number(t *testing.T, of func(x api.Box) (int, api.Errno), x api.Box) int {
	t.Helper()
	n, e := of(x)
	if e != api.OK && e != api.ErrNone {
		t.Fatalf("%v: error %d", x, e)
	}
	return n
}

func known(t *testing.T, x api.Box, one, other int) int {
	t.Helper()
	n, e := boxes.Together(x, one, other)
	if e != api.OK && e != api.ErrNone {
		t.Fatalf("Together of %v, %d, %d: error %d", x, one, other, e)
	}
	return n
}

func isIn(partings [][]int, parting []int) bool {
	return slices.ContainsFunc(partings, func(other []int) bool { return slices.Equal(other, parting) })
}

func copyBox(x api.Box) api.Box {
	x.Book, x.Fruits, x.Tied = cases.CopyMarkBook(x.Book), cases.CopyRows(x.Fruits), slices.Clone(x.Tied)
	return x
}

// P3.11 (each truth)
func TestEachTruth(t *testing.T) {
	eachBox(func(_ *cases.Dice, x api.Box) {
		partings := canBe(t, x)
		trees, kinds, fewest := number(t, boxes.Trees, x), number(t, boxes.Kinds, x), number(t, boxes.Fewest, x)
		sure, _ := boxes.Sure(x)
		var sorts [][]int
		for fruit := range x.Fruits {
			found, _ := boxes.Sorts(x, fruit)
			sorts = append(sorts, found)
		}
		for _, one := range truths(x) {
			if !isIn(partings, one.parting) || !cases.Subset(sure, one.sorts) || treesOf(one.parting) < trees || len(once(one.sorts)) < kinds || one.wrong < fewest {
				t.Errorf("%v: the truth %v; Partings %v, Sure %v, Trees %d, Kinds %d, Fewest %d", x, one, partings, sure, trees, kinds, fewest)
			}
			for fruit, tree := range one.parting {
				if !slices.Contains(sorts[fruit], one.sorts[tree]) {
					t.Errorf("%v: the truth %v; Sorts of %d are %v", x, one, fruit, sorts[fruit])
				}
			}
		}
	})
}

// P3.12 (one tree)
func TestOneTree(t *testing.T) {
	eachBox(func(_ *cases.Dice, x api.Box) {
		x.Trees = 1
		if len(x.Fruits) == 0 {
			// layer 1 has no Fewest without sorts, but here it is 0 then
			expectFewest(t, x, 0, api.OK)
			return
		}
		fewest, e := marks.Fewest(x.Book, x.Fruits)
		expectFewest(t, x, fewest, e)
		want, e := marks.Sorts(x.Book, x.Fruits)
		for fruit := range x.Fruits {
			if sorts, f := boxes.Sorts(x, fruit); !slices.Equal(sorts, want) || f != e {
				t.Errorf("Sorts of %v, %d = %v, %d; marks.Sorts %v, %d", x, fruit, sorts, f, want, e)
			}
		}
	})
}

func expectFewest(t *testing.T, x api.Box, want int, e api.Errno) {
	t.Helper()
	if n, f := boxes.Fewest(x); n != want || f != e {
		t.Errorf("Fewest of %v = %d, %d; want %d, %d", x, n, f, want, e)
	}
}

// P3.13 (one more fruit)
func TestOneMoreFruit(t *testing.T) {
	eachBox(func(d *cases.Dice, x api.Box) {
		if len(x.Fruits) == api.MaxMarkFruits {
			return
		}
		before, fewest, trees := canBe(t, x), number(t, boxes.Fewest, x), number(t, boxes.Trees, x)
		more := copyBox(x)
		more.Fruits = append(more.Fruits, d.Fruit(x.Book, 3))
		if n, e := boxes.Fewest(more); e == api.OK && n < fewest {
			t.Errorf("%v: Fewest is %d; with %v it is %d", x, fewest, more.Fruits, n)
		}
		after := canBe(t, more)
		if len(after) == 0 {
			return
		}
		for _, parting := range after {
			if !isIn(before, parting[:len(x.Fruits)]) {
				t.Errorf("%v: Partings %v; with %v also %v", x, before, more.Fruits, parting)
			}
		}
		if n := number(t, boxes.Trees, more); n < trees {
			t.Errorf("%v: Trees is %d; with %v it is %d", x, trees, more.Fruits, n)
		}
		for one := range x.Fruits {
			for other := range x.Fruits {
				was, is := known(t, x, one, other), known(t, more, one, other)
				if was != api.Perhaps && is != was {
					t.Errorf("%v: Together of %d, %d is %d; with %v it is %d", x, one, other, was, more.Fruits, is)
				}
			}
		}
	})
}

// P3.14 (more trees)
func TestMoreTrees(t *testing.T) {
	eachBox(func(_ *cases.Dice, x api.Box) {
		if x.Trees < api.MaxBoxTrees {
			wider := copyBox(x)
			wider.Trees++
			expectWider(t, x, wider)
		}
		for pair := range x.Tied {
			wider := copyBox(x)
			wider.Tied = slices.Delete(wider.Tied, pair, pair+1)
			expectWider(t, x, wider)
		}
	})
}

func expectWider(t *testing.T, x, wider api.Box) {
	t.Helper()
	partings := canBe(t, wider)
	for _, parting := range canBe(t, x) {
		if !isIn(partings, parting) {
			t.Errorf("%v can be parted %v, but not %v", x, parting, wider)
		}
	}
	if was, is := number(t, boxes.Fewest, x), number(t, boxes.Fewest, wider); is > was {
		t.Errorf("Fewest of %v is %d, but of %v %d", x, was, wider, is)
	}
}

// turned returns a box with its fruits in another order.
func turned(x api.Box, places []int) api.Box {
	x.Fruits = cases.Pick(x.Fruits, places)
	tied := x.Tied
	x.Tied = nil
	for _, one := range tied {
		a, b := slices.Index(places, one.A), slices.Index(places, one.B)
		x.Tied = append(x.Tied, pair(min(a, b), max(a, b)))
	}
	return x
}

// P3.15 (any order)
func TestAnyOrder(t *testing.T) {
	eachBox(func(d *cases.Dice, x api.Box) {
		places := d.Shuffled(len(x.Fruits))
		other := turned(x, places)
		for i, of := range []func(x api.Box) (int, api.Errno){boxes.Fewest, boxes.Many, boxes.Trees, boxes.Kinds} {
			n, e := of(x)
			if m, f := of(other); m != n || f != e {
				t.Errorf("%v: %d, %d of the function %d; in another order %d, %d", x, n, e, i, m, f)
			}
		}
		for one, was := range places {
			for two, was2 := range places {
				if n, m := known(t, x, was, was2), known(t, other, one, two); n != m {
					t.Errorf("%v: Together of %d, %d is %d; in another order %d", x, was, was2, n, m)
				}
			}
			sorts, e := boxes.Sorts(x, was)
			if found, f := boxes.Sorts(other, one); !slices.Equal(sorts, found) || e != f {
				t.Errorf("%v: Sorts of %d are %v, %d; in another order %v, %d", x, was, sorts, e, found, f)
			}
		}
	})
}

// P3.16 (tied)
func TestTied(t *testing.T) {
	eachBox(func(_ *cases.Dice, x api.Box) {
		partings := canBe(t, x)
		if len(partings) == 0 {
			return
		}
		for b := range x.Fruits {
			for a := range b {
				closer := copyBox(x)
				closer.Tied = append(closer.Tied, pair(a, b))
				want, _ := split(partings, a, b)
				found, e := boxes.Partings(closer)
				if !slices.EqualFunc(found, want, slices.Equal) || (e == api.ErrNone) != (known(t, x, a, b) == api.Never) {
					t.Errorf("%v: with %d, %d tied the partings are %v, %d; want %v", x, a, b, found, e, want)
				}
			}
		}
	})
}

// P3.17 (kinds)
func TestKinds(t *testing.T) {
	eachBox(func(_ *cases.Dice, x api.Box) {
		partings, kinds, trees := canBe(t, x), number(t, boxes.Kinds, x), number(t, boxes.Trees, x)
		sure, _ := boxes.Sure(x)
		if len(x.Fruits) == 1 && len(partings) > 1 {
			t.Errorf("%v: Partings of one fruit are %v", x, partings)
		}
		if len(partings) == 0 {
			return
		}
		if kinds > trees || kinds < 1 && len(x.Fruits) > 0 || len(sure) > kinds {
			t.Errorf("%v: Kinds is %d, Trees %d, Sure %v", x, kinds, trees, sure)
		}
	})
}

// R4: no argument is changed, no result is a part of one, and no two lists of a result share memory.
func TestNewMemory(t *testing.T) {
	eachBox(func(_ *cases.Dice, x api.Box) {
		was := copyBox(x)
		for fruit := range x.Fruits {
			calls(x, asked{fruit, 0})
			sorts, _ := boxes.Sorts(x, fruit)
			cases.Spoil(sorts)
		}
		sure, _ := boxes.Sure(x)
		cases.Spoil(sure)
		best, _ := boxes.Best(x)
		cases.Spoil(best)
		partings := canBe(t, x)
		for at := range partings {
			others := slices.Delete(cases.CopyRows(partings), at, at+1)
			cases.Spoil(partings[at])
			if !slices.EqualFunc(others, slices.Delete(slices.Clone(partings), at, at+1), slices.Equal) {
				t.Errorf("Partings of %v: the parting %d shares memory", x, at)
			}
		}
		if !reflect.DeepEqual(x, was) {
			t.Errorf("%v came to be %v", was, x)
		}
	})
}

// R3: nil and empty lists are the same.
func TestNilAndEmpty(t *testing.T) {
	nils := api.Box{Book: api.MarkBook{Sorts: make([]api.MarkSort, 2)}, Fruits: [][]int{nil, nil}, Trees: 2}
	empties := api.Box{Book: api.MarkBook{Values: []int{}, Firm: []int{}, Sorts: []api.MarkSort{{Can: [][]int{}}, {Can: [][]int{}}}}, Fruits: [][]int{{}, {}}, Trees: 2, Tied: []api.BoxPair{}}
	bare := api.Box{Book: api.MarkBook{Values: []int{}, Firm: []int{}, Sorts: []api.MarkSort{}}, Fruits: [][]int{}, Trees: 1, Tied: []api.BoxPair{}}
	for i, o := range calls(nils, asked{0, 1}) {
		if other := calls(empties, asked{0, 1})[i]; o != other || o.E != api.OK {
			t.Errorf("%v of nil; %v of empty", o, other)
		}
	}
	for i, o := range calls(api.Box{Trees: 1}, asked{}) {
		if other := calls(bare, asked{})[i]; o != other {
			t.Errorf("%v of nil; %v of empty", o, other)
		}
	}
}

// spoilt returns a box of which one thing, or all, is as it comes.
func spoilt(d *cases.Dice, x api.Box) api.Box {
	what := d.Below(5)
	if what == 0 || what == 4 {
		x.Book = d.SpoiltMarkBook(x.Book)
	}
	if what == 1 || what == 4 {
		x.Fruits = d.OddRows()
	}
	if what == 2 || what == 4 {
		x.Trees = d.Odd()
	}
	if what == 3 || what == 4 {
		x.Tied = nil
		for range d.Below(8) {
			x.Tied = append(x.Tied, pair(d.Odd(), d.Odd()))
		}
	}
	return x
}

// P1 (DOC.md): every function terminates, and none panics, whatever its arguments are; R2 holds for them, too.
func TestAnyArguments(t *testing.T) {
	eachBox(func(d *cases.Dice, x api.Box) {
		if d.Below(4) > 0 {
			x = spoilt(d, x)
		}
		for range 3 {
			a := asked{d.Odd(), d.Odd()}
			cases.ExpectNothingElse(t, calls(x, a), x, a)
		}
	})
	long := make([]int, 1<<20)
	calls(api.Box{Book: api.MarkBook{Values: long, Firm: long}, Fruits: [][]int{long}, Trees: 1}, asked{})
	calls(with(boxX(), func(x *api.Box) { x.Fruits = make([][]int, 1<<20) }), asked{})
	calls(boxX(make([]api.BoxPair, 1<<20)...), asked{})
}
