package keys_test

import (
	"slices"
	"testing"

	"pippin/api"
	"pippin/cases"
	"pippin/keys"
)

// dice throw what layer 2 is about.
type dice struct{ cases.Dice }

// nodes returns those of a key that is valid.
func (d *dice) nodes(values []int, sorts int) []api.KeyNode {
	many := 1 + d.Below(12)
	var nodes []api.KeyNode
	for at := range many {
		if at == many-1 || d.Below(3) == 0 {
			nodes = append(nodes, ends(d.Below(sorts+1)+none))
			continue
		}
		node := ask(d.Below(len(values)))
		for range values[node.Mark] {
			node.Next = append(node.Next, at+1+d.Below(many-at-1))
		}
		nodes = append(nodes, node)
	}
	return nodes
}

// eachBook calls a test with many small books, all of them valid; in some of them two sorts are equal.
func eachBook(test func(d *dice, b api.KeyBook)) {
	d := dice{1}
	for range 1500 {
		var b api.KeyBook
		for range 1 + d.Below(3) {
			b.Values = append(b.Values, 2+d.Below(2))
		}
		all := cases.AllBelow(b.Values)
		if d.Below(4) == 0 {
			all = append(all, all...)
		}
		for _, fruit := range cases.Pick(all, d.Shuffled(len(all))[:min(d.Below(7), len(all))]) {
			b.Sorts = append(b.Sorts, slices.Clone(fruit))
		}
		b.Nodes = d.nodes(b.Values, len(b.Sorts))
		test(&d, b)
	}
}

// way follows a key as the chapter says; it is nil if the nodes are not those of a key.
func way(nodes []api.KeyNode, fruit []int) []int {
	walk := list(0)
	for at := 0; nodes[at].Mark != none; {
		next := nodes[at].Next[fruit[nodes[at].Mark]]
		if next <= at || next >= len(nodes) {
			return nil
		}
		at = next
		walk = append(walk, at)
	}
	return walk
}

// P2.2 to P2.7: what all fruits say, one by one.
func TestAgainstAllFruits(t *testing.T) {
	eachBook(func(_ *dice, b api.KeyBook) {
		came := make([][]int, len(b.Nodes))
		deep := api.Span{Low: len(b.Nodes)}
		for _, fruit := range cases.AllBelow(b.Values) {
			want := way(b.Nodes, fruit)
			last := want[len(want)-1]
			if walk, e := keys.Walk(b, fruit); !slices.Equal(walk, want) || e != api.OK {
				t.Errorf("Walk of %v, %v = %v, %d; want %v", b, fruit, walk, e, want)
			}
			if end, e := keys.End(b, fruit); end != b.Nodes[last].Sort || e != api.OK {
				t.Errorf("End of %v, %v = %d, %d; want %d", b, fruit, end, e, b.Nodes[last].Sort)
			}
			for _, at := range want[:len(want)-1] {
				came[at] = append(came[at], fruit[b.Nodes[at].Mark])
			}
			deep = api.Span{Low: min(deep.Low, len(want)-1), High: max(deep.High, len(want)-1)}
		}
		if span, e := keys.Deep(b); span != deep || e != api.OK {
			t.Errorf("Deep of %v = %v, %d; want %v", b, span, e, deep)
		}
		var want []int
		for at, values := range came {
			if len(values) > 0 && slices.Min(values) == slices.Max(values) {
				want = append(want, at)
			}
		}
		if idle, e := keys.Idle(b); !slices.Equal(idle, want) || e != api.OK {
			t.Errorf("Idle of %v = %v, %d; want %v", b, idle, e, want)
		}
		compareSorts(t, b)
	})
}

func compareSorts(t *testing.T, b api.KeyBook) {
	t.Helper()
	var named []int
	comes := make([][]int, len(b.Nodes))
	for sort, values := range b.Sorts {
		walk := way(b.Nodes, values)
		if b.Nodes[walk[len(walk)-1]].Sort == sort {
			named = append(named, sort)
		}
		for _, at := range walk {
			comes[at] = append(comes[at], sort)
		}
	}
	if right, e := keys.Right(b); !slices.Equal(right, named) || e != api.OK {
		t.Errorf("Right of %v = %v, %d; want %v", b, right, e, named)
	}
	for node, want := range comes {
		if sorts, e := keys.Comes(b, node); !slices.Equal(sorts, want) || e != api.OK {
			t.Errorf("Comes of %v, %d = %v, %d; want %v", b, node, sorts, e, want)
		}
	}
}

// parted returns those that have a value of a mark.
func parted(fruits [][]int, mark, value int) [][]int {
	return slices.DeleteFunc(slices.Clone(fruits), func(fruit []int) bool { return fruit[mark] != value })
}

// enough reports whether some fruits have their ends after so many questions.
func enough(b api.KeyBook, fruits [][]int, questions int) bool {
	named := map[int]bool{}
	for _, fruit := range fruits {
		walk := way(b.Nodes, fruit)
		named[b.Nodes[walk[len(walk)-1]].Sort] = true
	}
	if len(named) < 2 {
		return true
	}
	for mark, values := range b.Values {
		all := questions > 0
		for value := range values {
			all = all && enough(b, parted(fruits, mark, value), questions-1)
		}
		if all {
			return true
		}
	}
	return false
}

// P2.8: all keys that have so many questions.
func TestShortAgainstAllKeys(t *testing.T) {
	eachBook(func(_ *dice, b api.KeyBook) {
		want := 0
		for !enough(b, cases.AllBelow(b.Values), want) {
			want++
		}
		if short, e := keys.Short(b); short != want || e != api.OK {
			t.Errorf("Short of %v = %d, %d; want %d", b, short, e, want)
		}
	})
}

// price is the most questions that a key has for a sort, and those of all sorts together.
type price struct{ worst, total int }

// prices returns what each key costs that names some sorts and asks for some marks, for none of them twice on a way.
func prices(values []int, sorts [][]int, left []int) map[price]bool {
	found := map[price]bool{}
	if len(sorts) < 2 {
		found[price{}] = true
	}
	for at, mark := range left {
		others := slices.Delete(slices.Clone(left), at, at+1)
		sums := map[price]bool{{}: true}
		for value := range values[mark] {
			longer := map[price]bool{}
			for sum := range sums {
				for part := range prices(values, parted(sorts, mark, value), others) {
					longer[price{max(sum.worst, part.worst), sum.total + part.total}] = true
				}
			}
			sums = longer
		}
		for sum := range sums {
			if len(sorts) > 0 {
				sum = price{1 + sum.worst, len(sorts) + sum.total}
			}
			found[sum] = true
		}
	}
	return found
}

// P2.9 to P2.11, P2.18: all keys that name all sorts.
func TestBestAgainstAllKeys(t *testing.T) {
	eachBook(func(d *dice, b api.KeyBook) {
		all := prices(b.Values, b.Sorts, d.Shuffled(len(b.Values)))
		want, worst, total := api.OK, len(b.Values), len(b.Values)*len(b.Sorts)
		for p := range all {
			worst, total = min(worst, p.worst), min(total, p.total)
		}
		if len(all) == 0 {
			want, worst, total = api.ErrNone, 0, 0
		}
		if best, e := keys.Best(b); best != worst || e != want {
			t.Errorf("Best of %v = %d, %d; want %d, %d", b, best, e, worst, want)
		}
		if mean, e := keys.Mean(b); mean != total || e != want {
			t.Errorf("Mean of %v = %d, %d; want %d, %d", b, mean, e, total, want)
		}
		if nodes, e := keys.Make(b); e != want || len(all) == 0 && len(nodes) > 0 {
			t.Errorf("Make of %v = %v, %d; want the error %d", b, nodes, e, want)
		}
		if len(all) > 0 {
			expectMade(t, b, worst)
		}
	})
}

// expectMade checks that what Make returns is a key that names all sorts of a book, with so many questions at the most.
func expectMade(t *testing.T, b api.KeyBook, best int) {
	t.Helper()
	nodes, e := keys.Make(b)
	if len(nodes) < 1 || len(nodes) > 40 || e != api.OK {
		t.Fatalf("Make of %v = %v, %d", b, nodes, e)
	}
	for at, node := range nodes {
		question := node.Mark >= 0 && node.Mark < len(b.Values) && node.Sort == none && len(node.Next) == b.Values[node.Mark]
		end := node.Mark == none && node.Sort >= none && node.Sort < len(b.Sorts) && len(node.Next) == 0
		if !question && !end {
			t.Fatalf("Make of %v = %v: the node %d is none of a key", b, nodes, at)
		}
	}
	for sort, values := range b.Sorts {
		walk := way(nodes, values)
		if len(walk) == 0 || len(walk)-1 > best || nodes[walk[len(walk)-1]].Sort != sort {
			t.Errorf("Make of %v = %v: the sort %d goes %v; Best is %d", b, nodes, sort, walk, best)
		}
	}
}

// differing returns the marks of which two sorts do not have the same value.
func differing(one, other []int) []int {
	var marks []int
	for mark, value := range one {
		if other[mark] != value {
			marks = append(marks, mark)
		}
	}
	return marks
}

// told reports whether each two sorts differ in one of some marks or more.
func told(sorts [][]int, marks []int) bool {
	for sort, one := range sorts {
		for _, other := range sorts[:sort] {
			if slices.Equal(cases.Pick(one, marks), cases.Pick(other, marks)) {
				return false
			}
		}
	}
	return true
}

// P2.12 to P2.14: all pairs of sorts, and all lists of marks.
func TestMarksAgainstAllPairs(t *testing.T) {
	eachBook(func(_ *dice, b api.KeyBook) {
		alone := map[int]bool{}
		for sort, one := range b.Sorts {
			for other, values := range b.Sorts {
				want := differing(one, values)
				if marks, e := keys.Apart(b, sort, other); !slices.Equal(marks, want) || e != api.OK {
					t.Errorf("Apart of %v, %d, %d = %v, %d; want %v", b, sort, other, marks, e, want)
				}
				if len(want) == 1 {
					alone[want[0]] = true
				}
			}
		}
		var want []int
		for mark := range b.Values {
			if alone[mark] {
				want = append(want, mark)
			}
		}
		if need, e := keys.Need(b); !slices.Equal(need, want) || e != api.OK {
			t.Errorf("Need of %v = %v, %d; want %v", b, need, e, want)
		}
		compareFew(t, b, want)
	})
}

// compareFew also checks P2.19: what is needed is in each list of marks with which all sorts differ.
func compareFew(t *testing.T, b api.KeyBook, need []int) {
	t.Helper()
	least, want := 0, api.ErrNone
	for _, marks := range cases.Sets(len(b.Values)) {
		if !told(b.Sorts, marks) {
			continue
		}
		if !cases.Subset(need, marks) {
			t.Errorf("%v: Need is %v, but %v tell all sorts apart", b, need, marks)
		}
		if want != api.OK || len(marks) < least {
			least, want = len(marks), api.OK
		}
	}
	if few, e := keys.Few(b); few != least || e != want {
		t.Errorf("Few of %v = %d, %d; want %d, %d", b, few, e, least, want)
	}
}
