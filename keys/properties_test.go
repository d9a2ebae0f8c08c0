package keys_test

import (
	"reflect"
	"slices"
	"testing"

	"pippin/api"
	"pippin/cases"
	"pippin/keys"
)

// walkOf, endOf and number are for valid books.
func walkOf(t *testing.T, b api.KeyBook, fruit []int) []int {
	t.Helper()
	walk, e := keys.Walk(b, fruit)
	if e != api.OK {
		t.Fatalf("Walk of %v, %v: error %d", b, fruit, e)
	}
	return walk
}

func endOf(t *testing.T, b api.KeyBook, fruit []int) int {
	t.Helper()
	end, e := keys.End(b, fruit)
	if e != api.OK {
		t.Fatalf("End of %v, %v: error %d", b, fruit, e)
	}
	return end
}

func number(t *testing.T, of func(b api.KeyBook) (int, api.Errno), b api.KeyBook) int {
	t.Helper()
	n, e := of(b)
	if e != api.OK && e != api.ErrNone {
		t.Fatalf("%v: error %d", b, e)
	}
	return n
}

func copyBook(b api.KeyBook) api.KeyBook {
	b.Values, b.Sorts, b.Nodes = slices.Clone(b.Values), cases.CopyRows(b.Sorts), slices.Clone(b.Nodes)
	for at, node := range b.Nodes {
		b.Nodes[at].Next = slices.Clone(node.Next)
	}
	return b
}

// P2.15 (each fruit)
func TestEachFruit(t *testing.T) {
	eachBook(func(_ *dice, b api.KeyBook) {
		deep, _ := keys.Deep(b)
		for _, fruit := range cases.AllBelow(b.Values) {
			walk := walkOf(t, b, fruit)
			last := b.Nodes[walk[len(walk)-1]]
			asked := len(walk) - 1
			if !slices.IsSorted(walk) || last.Mark != none || last.Sort != endOf(t, b, fruit) || asked < deep.Low || asked > deep.High {
				t.Errorf("%v: Walk of %v is %v; Deep %v", b, fruit, walk, deep)
			}
		}
		for sort, values := range b.Sorts {
			walk := walkOf(t, b, values)
			for node := range b.Nodes {
				comes, _ := keys.Comes(b, node)
				if slices.Contains(comes, sort) != slices.Contains(walk, node) {
					t.Errorf("%v: Comes of %d are %v; the sort %d goes %v", b, node, comes, sort, walk)
				}
			}
		}
	})
}

// without returns a book in which all nodes go on behind idle questions.
func without(t *testing.T, b api.KeyBook, idle []int) api.KeyBook {
	t.Helper()
	behind := map[int]int{}
	for _, fruit := range cases.AllBelow(b.Values) {
		walk := walkOf(t, b, fruit)
		for at, node := range walk {
			if slices.Contains(idle, node) {
				behind[node] = walk[at+1]
			}
		}
	}
	b = copyBook(b)
	for at := range b.Nodes {
		for value, next := range b.Nodes[at].Next {
			for slices.Contains(idle, next) {
				next = behind[next]
			}
			b.Nodes[at].Next[value] = next
		}
	}
	return b
}

// P2.16 (asked twice)
func TestAskedTwice(t *testing.T) {
	eachBook(func(_ *dice, b api.KeyBook) {
		idle, _ := keys.Idle(b)
		if slices.Contains(idle, 0) {
			t.Errorf("%v: Idle are %v", b, idle)
		}
		other := without(t, b, idle)
		for _, fruit := range cases.AllBelow(b.Values) {
			was, is := walkOf(t, b, fruit), walkOf(t, other, fruit)
			if len(is) > len(was) || endOf(t, b, fruit) != endOf(t, other, fruit) {
				t.Errorf("%v: %v goes %v; without the idle %v it goes %v", b, fruit, was, idle, is)
			}
		}
	})
}

// P2.17 (short)
func TestShortIsShort(t *testing.T) {
	eachBook(func(_ *dice, b api.KeyBook) {
		deep, _ := keys.Deep(b)
		short := number(t, keys.Short, b)
		one := true
		for _, fruit := range cases.AllBelow(b.Values) {
			one = one && endOf(t, b, fruit) == endOf(t, b, make([]int, len(b.Values)))
		}
		if short > deep.High || short < 0 || one != (short == 0) {
			t.Errorf("%v: Short is %d; Deep %v; all have one end: %t", b, short, deep, one)
		}
	})
}

// P2.18 (the best key)
func TestBestKey(t *testing.T) {
	d := dice{2}
	for range 300 {
		b := bare(list(2, 2, 2, 2, 2))
		for mark := range b.Values {
			b.Values[mark] += d.Below(2)
		}
		all := cases.AllBelow(b.Values)
		b.Sorts = cases.Pick(all, d.Shuffled(len(all))[:d.Below(api.MaxKeySorts+1)])
		best, mean, few := number(t, keys.Best, b), number(t, keys.Mean, b), number(t, keys.Few, b)
		if best > few || mean < best || mean > best*len(b.Sorts) {
			t.Errorf("%v: Best is %d, Mean %d, Few %d", b, best, mean, few)
		}
		expectMade(t, b, best)
	}
}

// P2.19 (one sort less)
func TestOneSortLess(t *testing.T) {
	eachBook(func(_ *dice, b api.KeyBook) {
		b = bare(b.Values, b.Sorts...)
		_, e := keys.Best(b)
		need, _ := keys.Need(b)
		for sort := range b.Sorts {
			less := bare(b.Values, slices.Delete(cases.CopyRows(b.Sorts), sort, sort+1)...)
			if few, _ := keys.Need(less); !cases.Subset(few, need) {
				t.Errorf("%v: Need is %v; without %d it is %v", b, need, sort, few)
			}
			for i, of := range []func(b api.KeyBook) (int, api.Errno){keys.Best, keys.Mean, keys.Few} {
				if was, is := number(t, of, b), number(t, of, less); e == api.OK && is > was {
					t.Errorf("%v: %d of the function %d; without %d it is %d", b, was, i, sort, is)
				}
			}
		}
	})
}

// P2.20 (any order)
func TestAnyOrder(t *testing.T) {
	eachBook(func(d *dice, b api.KeyBook) {
		marks, sorts := d.Shuffled(len(b.Values)), d.Shuffled(len(b.Sorts))
		other := copyBook(b)
		other.Values, other.Sorts = cases.Pick(b.Values, marks), nil
		for _, values := range cases.Pick(b.Sorts, sorts) {
			other.Sorts = append(other.Sorts, cases.Pick(values, marks))
		}
		for at, node := range other.Nodes {
			other.Nodes[at].Mark = slices.Index(marks, node.Mark)
			other.Nodes[at].Sort = slices.Index(sorts, node.Sort)
		}
		expectSame(t, b, other, "Idle", keys.Idle, nil)
		expectSame(t, b, other, "Right", keys.Right, sorts)
		expectSame(t, b, other, "Need", keys.Need, marks)
		for i, of := range []func(b api.KeyBook) (int, api.Errno){keys.Short, keys.Best, keys.Mean, keys.Few} {
			n, e := of(b)
			if turn, f := of(other); turn != n || f != e {
				t.Errorf("%v: %d, %d of the function %d; in another order %d, %d", b, n, e, i, turn, f)
			}
		}
		expectFruits(t, b, other, marks, sorts)
		expectPairs(t, b, other, marks, sorts)
	})
}

// expectSame compares the lists of a book with those of one that is turned; turned says which of the numbers comes to each place, if they are others.
func expectSame(t *testing.T, b, other api.KeyBook, name string, of func(b api.KeyBook) ([]int, api.Errno), turned []int) {
	t.Helper()
	was, _ := of(b)
	is, _ := of(other)
	if turned != nil {
		is = cases.Back(is, turned)
	}
	if !slices.Equal(was, is) {
		t.Errorf("%v: %s is %v; in another order %v", b, name, was, is)
	}
}

func expectFruits(t *testing.T, b, other api.KeyBook, marks, sorts []int) {
	t.Helper()
	was, _ := keys.Deep(b)
	if is, _ := keys.Deep(other); is != was {
		t.Errorf("%v: Deep is %v; in another order %v", b, was, is)
	}
	for _, fruit := range cases.AllBelow(b.Values) {
		turned := cases.Pick(fruit, marks)
		if !slices.Equal(walkOf(t, b, fruit), walkOf(t, other, turned)) || slices.Index(sorts, endOf(t, b, fruit)) != endOf(t, other, turned) {
			t.Errorf("%v: %v does not go as in another order", b, fruit)
		}
	}
}

func expectPairs(t *testing.T, b, other api.KeyBook, marks, sorts []int) {
	t.Helper()
	for node := range b.Nodes {
		of := func(b api.KeyBook) ([]int, api.Errno) { return keys.Comes(b, node) }
		expectSame(t, b, other, "Comes", of, sorts)
	}
	for one, was := range sorts {
		for two, was2 := range sorts {
			apart, _ := keys.Apart(b, was, was2)
			if turn, _ := keys.Apart(other, one, two); !slices.Equal(apart, cases.Back(turn, marks)) {
				t.Errorf("%v: Apart of %d %d is %v; in another order %v", b, was, was2, apart, turn)
			}
		}
	}
}

// R4: no argument is changed, no result is a part of one, and no two lists of a result share memory.
func TestNewMemory(t *testing.T) {
	eachBook(func(_ *dice, b api.KeyBook) {
		wasBook := copyBook(b)
		fruit := make([]int, len(b.Values))
		for sort := range b.Sorts {
			calls(b, asked{fruit: fruit, sort: sort})
			apart, _ := keys.Apart(b, 0, sort)
			cases.Spoil(apart)
		}
		for _, of := range []func(b api.KeyBook) ([]int, api.Errno){keys.Right, keys.Idle, keys.Need} {
			found, _ := of(b)
			cases.Spoil(found)
		}
		comes, _ := keys.Comes(b, 0)
		cases.Spoil(comes)
		cases.Spoil(walkOf(t, b, fruit))
		nodes, _ := keys.Make(b)
		for at, node := range nodes {
			behind := copyBook(api.KeyBook{Nodes: nodes[at+1:]})
			cases.Spoil(node.Next)
			if !reflect.DeepEqual(behind.Nodes, slices.Clone(nodes[at+1:])) {
				t.Errorf("Make of %v: the node %d shares its list", b, at)
			}
		}
		if !reflect.DeepEqual(b, wasBook) || slices.Max(fruit) > 0 {
			t.Errorf("%v came to be %v; the fruit %v", wasBook, b, fruit)
		}
	})
}

// R3: nil and empty lists are the same.
func TestNilAndEmpty(t *testing.T) {
	nils, empties := bare(list(2)), bare(list(2))
	empties.Sorts, empties.Nodes = [][]int{}, []api.KeyNode{{Mark: none, Sort: none, Next: []int{}}}
	for i, o := range calls(nils, asked{fruit: list(1)}) {
		if other := calls(empties, asked{fruit: list(1)})[i]; o != other {
			t.Errorf("%v of nil; %v of empty", o, other)
		}
	}
	cases.ExpectError(t, "nil", calls(api.KeyBook{}, asked{}), api.ErrKey)
	cases.ExpectError(t, "empty", calls(api.KeyBook{Values: []int{}, Sorts: [][]int{}, Nodes: []api.KeyNode{}}, asked{fruit: []int{}}), api.ErrKey)
}

// spoilt returns a book of which one thing, or all, is as it comes.
func (d *dice) spoilt(b api.KeyBook) api.KeyBook {
	what := d.Below(4)
	if what == 0 || what == 3 {
		b.Values = d.Odds()
	}
	if what == 1 || what == 3 {
		b.Sorts = d.OddRows()
	}
	if what == 2 || what == 3 {
		b.Nodes = make([]api.KeyNode, d.Below(25))
		for at := range b.Nodes {
			b.Nodes[at] = api.KeyNode{Mark: d.Odd(), Sort: d.Odd(), Next: d.Odds()}
		}
	}
	return b
}

// P1 (DOC.md): every function terminates, and none panics, whatever its arguments are; R2 holds for them, too.
func TestAnyArguments(t *testing.T) {
	eachBook(func(d *dice, b api.KeyBook) {
		if d.Below(2) == 0 {
			b = d.spoilt(b)
		}
		for range 4 {
			a := asked{d.Odds(), d.Odd(), d.Odd(), d.Odd()}
			cases.ExpectNothingElse(t, calls(b, a), b, a)
		}
	})
	long := make([]int, 1<<20)
	calls(api.KeyBook{Values: long, Sorts: [][]int{long}, Nodes: make([]api.KeyNode, 1<<20)}, asked{fruit: long})
	calls(api.KeyBook{Values: list(2), Sorts: [][]int{long}, Nodes: []api.KeyNode{{Next: long}}}, asked{})
	calls(bookB(), asked{fruit: long})
}
