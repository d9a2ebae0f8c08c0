package keys_test

import (
	"slices"
	"testing"

	"pippin/api"
	"pippin/cases"
	"pippin/keys"
)

const none = api.KeyNone

// list keeps the tables below short.
func list(numbers ...int) []int { return numbers }

func ask(mark int, next ...int) api.KeyNode {
	return api.KeyNode{Mark: mark, Sort: none, Next: next}
}

func ends(sort int) api.KeyNode { return api.KeyNode{Mark: none, Sort: sort} }

// bookB is the book B of the chapter's examples.
func bookB() api.KeyBook {
	return api.KeyBook{
		Values: list(2, 3),
		Sorts:  [][]int{{0, 0}, {0, 1}, {1, 2}, {1, 0}},
		Nodes: []api.KeyNode{
			ask(0, 1, 2), ask(1, 3, 4, 5), ask(0, 5, 6), ends(0), ends(1), ends(none), ask(1, 7, 8, 9), ends(3), ends(none), ends(2),
		},
	}
}

// bare has a key that names nothing.
func bare(values []int, sorts ...[]int) api.KeyBook {
	return api.KeyBook{Values: values, Sorts: sorts, Nodes: []api.KeyNode{ends(none)}}
}

// equal has two sorts that no mark tells apart, and one that is told apart from both by the mark 1 alone.
func equal() api.KeyBook {
	b := bare(list(2, 2), list(1, 0), list(1, 0), list(1, 1))
	b.Nodes = []api.KeyNode{ask(1, 1, 2), ends(1), ends(0)}
	return b
}

// fullBook has as much of everything as there can be. Each question leads one, two or three nodes on, by the value.
func fullBook() api.KeyBook {
	b := api.KeyBook{Values: list(3, 3, 3, 3, 3)}
	for sort := range api.MaxKeySorts {
		b.Sorts = append(b.Sorts, list(2, sort/4, sort/2%2, sort%2, 0))
	}
	for at := range api.MaxKeyNodes - 3 {
		b.Nodes = append(b.Nodes, ask(at%5, at+1, at+2, at+3))
	}
	b.Nodes = append(b.Nodes, ends(none), ends(0), ends(7))
	return b
}

// parity asks for five marks, one behind the other, and names the sort 0 just if an odd number of them is 1.
func parity() api.KeyBook {
	b := api.KeyBook{Values: slices.Repeat(list(2), 5), Sorts: [][]int{{0, 0, 1, 0, 0}}, Nodes: []api.KeyNode{ask(0, 1, 2)}}
	for mark := range 4 {
		even := 2*mark + 1
		b.Nodes = append(b.Nodes, ask(mark+1, even+2, even+3), ask(mark+1, even+3, even+2))
	}
	b.Nodes = append(b.Nodes, ends(none), ends(0))
	return b
}

// star has sorts each of which differs from the last one in a mark of its own alone.
func star(marks int) api.KeyBook {
	b := bare(slices.Repeat(list(2), marks))
	for mark := range marks + 1 {
		sort := make([]int, marks)
		if mark < marks {
			sort[mark] = 1
		}
		b.Sorts = append(b.Sorts, sort)
	}
	return b
}

// P2.1: what is valid, up to each limit.
func TestCheckTakesValid(t *testing.T) {
	for name, b := range map[string]api.KeyBook{
		"B":               bookB(),
		"equal sorts":     equal(),
		"each limit":      fullBook(),
		"the least of it": bare(list(2)),
		"a sort not come": {Values: list(2), Sorts: [][]int{{1}}, Nodes: []api.KeyNode{ends(none), ends(0), ends(0)}},
		"one next node":   {Values: list(3), Nodes: []api.KeyNode{ask(0, 1, 1, 1), ends(none)}},
	} {
		if e := keys.Check(b); e != api.OK {
			t.Errorf("%s: Check = %d", name, e)
		}
	}
}

// wrongBooks are not valid, each for one reason.
func wrongBooks() map[string]api.KeyBook {
	books := map[string]api.KeyBook{"nothing": {}}
	add := func(name string, b api.KeyBook, change func(b *api.KeyBook)) {
		change(&b)
		books[name] = b
	}
	add("no marks", bare(nil), func(b *api.KeyBook) {})
	add("too many marks", bare(slices.Repeat(list(2), api.MaxKeyMarks+1)), func(b *api.KeyBook) {})
	add("one value", bare(list(2, 1)), func(b *api.KeyBook) {})
	add("too many values", bare(list(api.MaxKeyValues+1)), func(b *api.KeyBook) {})
	add("fewer values than none", bare(list(-2)), func(b *api.KeyBook) {})
	add("too many sorts", fullBook(), func(b *api.KeyBook) { b.Sorts = append(b.Sorts, list(0, 0, 0, 0, 0)) })
	add("a sort without values", bookB(), func(b *api.KeyBook) { b.Sorts[3] = nil })
	add("a sort with too few values", bookB(), func(b *api.KeyBook) { b.Sorts[0] = list(0) })
	add("a sort with too many values", bookB(), func(b *api.KeyBook) { b.Sorts[0] = list(0, 0, 0) })
	add("a sort's value above", bookB(), func(b *api.KeyBook) { b.Sorts[2] = list(1, 3) })
	add("a sort's value below", bookB(), func(b *api.KeyBook) { b.Sorts[2] = list(-1, 2) })
	add("no nodes", bookB(), func(b *api.KeyBook) { b.Nodes = nil })
	add("too many nodes", fullBook(), func(b *api.KeyBook) { b.Nodes = append(b.Nodes, ends(none)) })
	add("a mark above", bookB(), func(b *api.KeyBook) { b.Nodes[0].Mark = 2 })
	add("a mark below none", bookB(), func(b *api.KeyBook) { b.Nodes[5].Mark = none - 1 })
	add("a question with a sort", bookB(), func(b *api.KeyBook) { b.Nodes[1].Sort = 0 })
	add("a question below no sort", bookB(), func(b *api.KeyBook) { b.Nodes[1].Sort = none - 1 })
	add("a question with too few", bookB(), func(b *api.KeyBook) { b.Nodes[1] = ask(1, 3, 4) })
	add("a question with too many", bookB(), func(b *api.KeyBook) { b.Nodes[0] = ask(0, 1, 2, 3) })
	add("a question without next", bookB(), func(b *api.KeyBook) { b.Nodes[6] = ask(1) })
	add("next itself", bookB(), func(b *api.KeyBook) { b.Nodes[6].Next[0] = 6 })
	add("next before it", bookB(), func(b *api.KeyBook) { b.Nodes[6].Next[2] = 5 })
	add("next none", bookB(), func(b *api.KeyBook) { b.Nodes[0].Next[0] = none })
	add("next above", bookB(), func(b *api.KeyBook) { b.Nodes[6].Next[1] = 10 })
	add("an end with a wrong sort", bookB(), func(b *api.KeyBook) { b.Nodes[9].Sort = 4 })
	add("an end below no sort", bookB(), func(b *api.KeyBook) { b.Nodes[9].Sort = none - 1 })
	add("an end with a next node", bookB(), func(b *api.KeyBook) { b.Nodes[3].Next = list(4) })
	add("a sort of none", bare(list(2)), func(b *api.KeyBook) { b.Nodes[0].Sort = 0 })
	return books
}

// asked is what is asked for.
type asked struct {
	fruit             []int
	node, sort, other int
}

// calls calls all functions.
func calls(b api.KeyBook, a asked) []cases.Outcome {
	walk, e1 := keys.Walk(b, a.fruit)
	end, e2 := keys.End(b, a.fruit)
	comes, e3 := keys.Comes(b, a.node)
	right, e4 := keys.Right(b)
	idle, e5 := keys.Idle(b)
	deep, e6 := keys.Deep(b)
	short, e7 := keys.Short(b)
	best, e8 := keys.Best(b)
	mean, e9 := keys.Mean(b)
	nodes, e10 := keys.Make(b)
	apart, e11 := keys.Apart(b, a.sort, a.other)
	few, e12 := keys.Few(b)
	need, e13 := keys.Need(b)
	return []cases.Outcome{
		cases.Got("Check", 0, keys.Check(b)), cases.Got("Walk", len(walk), e1), cases.Got("End", end, e2), cases.Got("Comes", len(comes), e3), cases.Got("Right", len(right), e4), cases.Got("Idle", len(idle), e5), cases.Got("Deep", deep.Low+deep.High, e6),
		cases.Got("Short", short, e7), cases.Got("Best", best, e8), cases.Got("Mean", mean, e9), cases.Got("Make", len(nodes), e10), cases.Got("Apart", len(apart), e11), cases.Got("Few", few, e12), cases.Got("Need", len(need), e13),
	}
}

// P2.1, R1, R2: ErrKey comes before all other errors.
func TestWrongBooks(t *testing.T) {
	for name, b := range wrongBooks() {
		cases.ExpectError(t, name, calls(b, asked{nil, -1, -1, 99}), api.ErrKey)
		cases.ExpectError(t, name, calls(b, asked{fruit: make([]int, len(b.Values))}), api.ErrKey)
	}
	b := equal()
	b.Nodes[0].Next[0] = 0
	cases.ExpectError(t, "equal sorts, and a wrong node", calls(b, asked{fruit: list(0, 0), other: 1}), api.ErrKey)
}

// ErrArg: what is asked for by numbers is not there.
func TestNumbersThatAreNone(t *testing.T) {
	for _, fruit := range [][]int{nil, {0}, {0, 0, 0}, {2, 0}, {0, 3}, {-1, 0}, {0, -1}, {none, none}} {
		cases.ExpectError(t, "a fruit", calls(bookB(), asked{fruit: fruit}), api.ErrArg, "Walk", "End")
	}
	for _, number := range list(-1, 10, 99) {
		cases.ExpectError(t, "a node", calls(bookB(), asked{node: number}), api.ErrArg, "Comes")
	}
	for _, number := range list(-1, 4, 99) {
		cases.ExpectError(t, "one sort", calls(bookB(), asked{sort: number}), api.ErrArg, "Apart")
		cases.ExpectError(t, "the other sort", calls(bookB(), asked{other: number}), api.ErrArg, "Apart")
		cases.ExpectError(t, "both sorts", calls(bookB(), asked{sort: number, other: number}), api.ErrArg, "Apart")
	}
	cases.ExpectError(t, "no sorts", calls(bare(list(2)), asked{}), api.ErrArg, "Apart")
}

// ErrNone: two sorts have all values in common, which matters to four functions alone.
func TestEqualSorts(t *testing.T) {
	for _, o := range calls(equal(), asked{fruit: list(1, 0), other: 1}) {
		want := api.OK
		if slices.Contains([]string{"Best", "Mean", "Make", "Few"}, o.Name) {
			want = api.ErrNone
		}
		if o.E != want || want == api.ErrNone && o.Result != 0 {
			t.Errorf("equal sorts: %s = %d, %d; want the error %d", o.Name, o.Result, o.E, want)
		}
	}
	last := star(3)
	last.Sorts = append(last.Sorts, last.Sorts[0])
	cases.ExpectError(t, "the first and the last", calls(last, asked{}), api.ErrNone, "Best", "Mean", "Make", "Few")
}

// P2.2, P2.3
func TestWalkAndEnd(t *testing.T) {
	for name, x := range map[string]struct {
		b     api.KeyBook
		fruit []int
		walk  []int
		end   int
	}{
		"B, 1 2":          {bookB(), list(1, 2), list(0, 2, 6, 9), 2},
		"B, 0 2":          {bookB(), list(0, 2), list(0, 1, 5), none},
		"B, 0 0":          {bookB(), list(0, 0), list(0, 1, 3), 0},
		"B, 1 1":          {bookB(), list(1, 1), list(0, 2, 6, 8), none},
		"equal":           {equal(), list(0, 0), list(0, 1), 1},
		"an end at once":  {bare(list(2)), list(1), list(0), none},
		"the longest way": {fullBook(), list(0, 0, 0, 0, 0), list(0, 1, 2, 3, 4, 5, 6, 7, 8, 9, 10, 11, 12, 13, 14, 15, 16, 17), none},
		"the shortest":    {fullBook(), list(2, 2, 2, 2, 2), list(0, 3, 6, 9, 12, 15, 18), 0},
		"the last node":   {fullBook(), list(0, 2, 0, 0, 1), list(0, 1, 4, 6, 9, 11, 14, 16, 19), 7},
	} {
		if walk, e := keys.Walk(x.b, x.fruit); !slices.Equal(walk, x.walk) || e != api.OK {
			t.Errorf("%s: Walk = %v, %d; want %v", name, walk, e, x.walk)
		}
		if end, e := keys.End(x.b, x.fruit); end != x.end || e != api.OK {
			t.Errorf("%s: End = %d, %d; want %d", name, end, e, x.end)
		}
	}
}

// P2.4
func TestComes(t *testing.T) {
	for name, x := range map[string]struct {
		b    api.KeyBook
		node int
		want []int
	}{
		"B, 0":          {bookB(), 0, list(0, 1, 2, 3)},
		"B, 2":          {bookB(), 2, list(2, 3)},
		"B, 5":          {bookB(), 5, nil},
		"B, 9":          {bookB(), 9, list(2)},
		"equal, 1":      {equal(), 1, list(0, 1)},
		"equal, 2":      {equal(), 2, list(2)},
		"no sorts":      {bare(list(2)), 0, nil},
		"a node unused": {api.KeyBook{Values: list(2), Sorts: [][]int{{0}}, Nodes: []api.KeyNode{ends(0), ends(0)}}, 1, nil},
	} {
		if sorts, e := keys.Comes(x.b, x.node); !slices.Equal(sorts, x.want) || e != api.OK {
			t.Errorf("%s: Comes = %v, %d; want %v", name, sorts, e, x.want)
		}
	}
}

// P2.5 to P2.8
func TestKeyAsItIs(t *testing.T) {
	// the node 2 cannot be come to, and both ways lead through the node 1
	joined := api.KeyBook{Values: list(2, 2), Sorts: [][]int{{0, 1}, {1, 1}}, Nodes: []api.KeyNode{ask(0, 1, 1), ask(1, 3, 4), ask(0, 3, 3), ends(none), ends(1)}}
	twice := api.KeyBook{Values: list(3), Sorts: [][]int{{2}, {0}}, Nodes: []api.KeyNode{ask(0, 1, 2, 3), ask(0, 4, 3, 3), ask(0, 3, 3, 3), ends(0), ends(1)}}
	// the mark 0 tells which of the others matters
	wide := api.KeyBook{Values: list(2, 2, 2), Nodes: []api.KeyNode{ask(0, 1, 2), ask(1, 3, 4), ask(2, 3, 4), ends(0), ends(none)}, Sorts: [][]int{{0, 0, 1}}}
	for name, x := range map[string]struct {
		b           api.KeyBook
		right, idle []int
		deep        api.Span
		short       int
	}{
		"B":               {bookB(), list(0, 1, 2, 3), list(2), api.Span{Low: 2, High: 3}, 2},
		"equal":           {equal(), list(1), nil, api.Span{Low: 1, High: 1}, 1},
		"both ways join":  {joined, list(1), nil, api.Span{Low: 2, High: 2}, 1},
		"asked twice":     {twice, list(0, 1), list(1, 2), api.Span{Low: 1, High: 2}, 1},
		"three marks":     {wide, list(0), nil, api.Span{Low: 2, High: 2}, 2},
		"five marks":      {parity(), list(0), nil, api.Span{Low: 5, High: 5}, 5},
		"each limit":      {fullBook(), list(0), nil, api.Span{Low: 6, High: 17}, 5},
		"an end at once":  {bare(list(3), list(1)), nil, nil, api.Span{}, 0},
		"one end for all": {api.KeyBook{Values: list(2), Sorts: [][]int{{0}, {1}}, Nodes: []api.KeyNode{ask(0, 1, 2), ends(1), ends(1)}}, list(1), nil, api.Span{Low: 1, High: 1}, 0},
		"one end is none": {api.KeyBook{Values: list(2), Sorts: [][]int{{0}, {1}}, Nodes: []api.KeyNode{ask(0, 1, 2), ends(0), ends(none)}}, list(0), nil, api.Span{Low: 1, High: 1}, 1},
	} {
		if right, e := keys.Right(x.b); !slices.Equal(right, x.right) || e != api.OK {
			t.Errorf("%s: Right = %v, %d; want %v", name, right, e, x.right)
		}
		if idle, e := keys.Idle(x.b); !slices.Equal(idle, x.idle) || e != api.OK {
			t.Errorf("%s: Idle = %v, %d; want %v", name, idle, e, x.idle)
		}
		if deep, e := keys.Deep(x.b); deep != x.deep || e != api.OK {
			t.Errorf("%s: Deep = %v, %d; want %v", name, deep, e, x.deep)
		}
		if short, e := keys.Short(x.b); short != x.short || e != api.OK {
			t.Errorf("%s: Short = %d, %d; want %d", name, short, e, x.short)
		}
	}
}

// P2.9 to P2.11, P2.13, P2.14
func TestKeysThatNameAll(t *testing.T) {
	// the mark 0 only parts the first sort from the others; all other marks part all sorts evenly
	even := bare(list(2, 2, 2, 2), list(1, 0, 0, 0), list(0, 0, 0, 1), list(0, 0, 1, 0), list(0, 0, 1, 1), list(0, 1, 0, 0), list(0, 1, 0, 1), list(0, 1, 1, 0), list(0, 1, 1, 1))
	for name, x := range map[string]struct {
		b               api.KeyBook
		best, mean, few int
		need            []int
	}{
		"B":           {bookB(), 2, 6, 2, list(0, 1)},
		"no sorts":    {bare(list(3)), 0, 0, 0, nil},
		"one sort":    {bare(list(2, 3), list(1, 2)), 0, 0, 0, nil},
		"two sorts":   {bare(list(2, 2), list(0, 0), list(1, 1)), 1, 2, 1, nil},
		"three ways":  {bare(list(2, 3), list(0, 0), list(0, 1), list(1, 2)), 1, 3, 1, list(1)},
		"star of 2":   {star(2), 2, 5, 2, list(0, 1)},
		"star of 5":   {star(5), 5, 20, 5, list(0, 1, 2, 3, 4)},
		"each limit":  {fullBook(), 3, 24, 3, list(1, 2, 3)},
		"even":        {even, 3, 24, 3, list(1, 2, 3)},
		"few is more": {bare(list(2, 2, 2), list(0, 0, 0), list(0, 1, 0), list(1, 0, 0), list(1, 0, 1)), 2, 8, 3, list(0, 1, 2)},
	} {
		if best, e := keys.Best(x.b); best != x.best || e != api.OK {
			t.Errorf("%s: Best = %d, %d; want %d", name, best, e, x.best)
		}
		if mean, e := keys.Mean(x.b); mean != x.mean || e != api.OK {
			t.Errorf("%s: Mean = %d, %d; want %d", name, mean, e, x.mean)
		}
		if few, e := keys.Few(x.b); few != x.few || e != api.OK {
			t.Errorf("%s: Few = %d, %d; want %d", name, few, e, x.few)
		}
		if need, e := keys.Need(x.b); !slices.Equal(need, x.need) || e != api.OK {
			t.Errorf("%s: Need = %v, %d; want %v", name, need, e, x.need)
		}
		expectMade(t, x.b, x.best)
	}
}

// P2.12, P2.14: equal sorts do not hinder these two.
func TestApart(t *testing.T) {
	for name, x := range map[string]struct {
		b           api.KeyBook
		sort, other int
		want        []int
	}{
		"B, 0 2":      {bookB(), 0, 2, list(0, 1)},
		"B, 2 0":      {bookB(), 2, 0, list(0, 1)},
		"B, 0 3":      {bookB(), 0, 3, list(0)},
		"B, 1 1":      {bookB(), 1, 1, nil},
		"equal, 0 1":  {equal(), 0, 1, nil},
		"equal, 0 2":  {equal(), 0, 2, list(1)},
		"each limit":  {fullBook(), 0, 7, list(1, 2, 3)},
		"all of them": {bare(list(3, 3, 3, 3, 3), list(0, 0, 0, 0, 0), list(1, 2, 1, 2, 1)), 1, 0, list(0, 1, 2, 3, 4)},
	} {
		if marks, e := keys.Apart(x.b, x.sort, x.other); !slices.Equal(marks, x.want) || e != api.OK {
			t.Errorf("%s: Apart = %v, %d; want %v", name, marks, e, x.want)
		}
	}
	if need, e := keys.Need(equal()); !slices.Equal(need, list(1)) || e != api.OK {
		t.Errorf("equal sorts: Need = %v, %d; want 1", need, e)
	}
}
