package boxes_test

import (
	"slices"
	"testing"

	"pippin/api"
	"pippin/boxes"
	"pippin/cases"
	"pippin/keys"
	"pippin/marks"
)

// eachPlain calls a test with boxes of sorts that all differ, each of whose marks has one value alone, with nothing written wrongly; all marks of the fruits were looked at, and each is of one of the sorts.
func eachPlain(test func(key api.KeyBook, x api.Box, of []int)) {
	d := cases.Dice(4)
	for range 1000 {
		var values []int
		for range 1 + d.Below(3) {
			values = append(values, 2+d.Below(2))
		}
		all := cases.AllBelow(values)
		sorts := cases.Pick(all, d.Shuffled(len(all))[:1+d.Below(min(len(all), api.MaxMarkSorts))])
		x := api.Box{Book: d.PlainMarkBook(values, sorts), Trees: 1 + d.Below(api.MaxBoxTrees)}
		var of []int
		for range d.Below(api.MaxMarkFruits + 1) {
			of = append(of, d.Below(min(len(sorts), 4)))
		}
		x.Fruits = cases.CopyRows(cases.Pick(sorts, of))
		end := api.KeyNode{Mark: api.KeyNone, Sort: api.KeyNone}
		test(api.KeyBook{Values: values, Sorts: sorts, Nodes: []api.KeyNode{end}}, d.Tied(x), of)
	}
}

// tiesSorts reports whether fruits of two sorts are tied.
func tiesSorts(x api.Box, of []int) bool {
	return slices.ContainsFunc(x.Tied, func(one api.BoxPair) bool { return of[one.A] != of[one.B] })
}

// P0.1 (the key and the box)
func TestKeyAndBox(t *testing.T) {
	eachPlain(func(key api.KeyBook, x api.Box, of []int) {
		kinds, e := boxes.Kinds(x)
		if len(once(of)) > x.Trees || tiesSorts(x, of) {
			if e != api.ErrNone {
				t.Errorf("Kinds of %v = %d, %d; the fruits are of the sorts %v", x, kinds, e, of)
			}
			return
		}
		trees, f := boxes.Trees(x)
		if kinds != len(once(of)) || trees < kinds || e != api.OK || f != api.OK {
			t.Errorf("%v: Kinds = %d, %d; Trees = %d, %d; the fruits are of the sorts %v", x, kinds, e, trees, f, of)
		}
		nodes, e := keys.Make(key)
		if e != api.OK {
			t.Fatalf("Make of %v: error %d", key, e)
		}
		key.Nodes = nodes
		for fruit, sort := range of {
			expectSort(t, key, x, fruit, sort)
			for other := range of {
				if of[other] != sort && known(t, x, fruit, other) != api.Never {
					t.Errorf("%v: Together of %d, %d, which are of the sorts %v, is %d", x, fruit, other, of, known(t, x, fruit, other))
				}
			}
		}
	})
}

// expectSort checks that a box, a book and a key say that a fruit is of a sort.
func expectSort(t *testing.T, key api.KeyBook, x api.Box, fruit, sort int) {
	t.Helper()
	in, e := boxes.Sorts(x, fruit)
	alone, f := marks.Sorts(x.Book, [][]int{x.Fruits[fruit]})
	end, g := keys.End(key, x.Fruits[fruit])
	if !slices.Equal(in, list(sort)) || !slices.Equal(alone, list(sort)) || end != sort || e != api.OK || f != api.OK || g != api.OK {
		t.Errorf("%v: Sorts of %d = %v, %d; marks.Sorts = %v, %d; keys.End = %d, %d; want %d", x, fruit, in, e, alone, f, end, g, sort)
	}
}
