package keys_test

import (
	"slices"
	"testing"

	"pippin/api"
	"pippin/cases"
	"pippin/keys"
	"pippin/marks"
)

// P0.10 (the key and the marks)
func TestKeyAndMarks(t *testing.T) {
	eachBook(func(d *dice, b api.KeyBook) {
		book := d.PlainMarkBook(b.Values, b.Sorts)
		for _, fruit := range cases.AllBelow(b.Values) {
			var want []int
			for sort, values := range b.Sorts {
				if slices.Equal(values, fruit) {
					want = append(want, sort)
				}
			}
			sorts, e := marks.Sorts(book, [][]int{fruit})
			if !slices.Equal(sorts, want) || e != api.OK && len(want) > 0 {
				t.Errorf("marks.Sorts of %v, %v = %v, %d; want %v", book, fruit, sorts, e, want)
			}
		}
		right, _ := keys.Right(b)
		for _, sort := range right {
			expectOne(t, b, book, sort)
		}
		nodes, e := keys.Make(b)
		if e != api.OK {
			return
		}
		// what Make returns can be followed as a key of the book only if it is not too long for one
		made := api.KeyBook{Values: b.Values, Sorts: b.Sorts, Nodes: nodes}
		if len(nodes) > api.MaxKeyNodes || keys.Check(made) != api.OK {
			t.Fatalf("Make of %v = %v", b, nodes)
		}
		for sort, values := range b.Sorts {
			expectOne(t, made, book, sort)
			if sorts, _ := marks.Sorts(book, [][]int{values}); len(sorts) != 1 {
				t.Errorf("marks.Sorts of %v, %v = %v; want one", book, values, sorts)
			}
		}
	})
}

// expectOne checks that a key names one of the sorts which the values of a sort can be of.
func expectOne(t *testing.T, b api.KeyBook, book api.MarkBook, sort int) {
	t.Helper()
	sorts, _ := marks.Sorts(book, [][]int{b.Sorts[sort]})
	if end := endOf(t, b, b.Sorts[sort]); !slices.Contains(sorts, end) {
		t.Errorf("%v: End of the sort %d is %d; marks.Sorts %v", b, sort, end, sorts)
	}
}

// P0.11 (the next mark and the key)
func TestNextMarkAndKey(t *testing.T) {
	eachBook(func(d *dice, b api.KeyBook) {
		best, e := keys.Best(b)
		if e != api.OK {
			return
		}
		mean := number(t, keys.Mean, b)
		book := d.PlainMarkBook(b.Values, b.Sorts)
		most, all := 0, 0
		for sort := range b.Sorts {
			looks := lookOn(t, book, b.Sorts[sort], sort)
			most, all = max(most, looks), all+looks
		}
		if most < best || most > len(b.Values) || all < mean {
			t.Errorf("%v: %d looks at the most, %d in all; Best is %d, Mean %d", b, most, all, best, mean)
		}
	})
}

// lookOn looks at the marks that marks.Next says until one sort is left, which must be the one that the fruit is of, and returns how many looks it took.
func lookOn(t *testing.T, book api.MarkBook, values []int, sort int) int {
	t.Helper()
	fruits := [][]int{slices.Repeat(list(api.MarkNot), len(values))}
	for looks := 0; ; looks++ {
		sorts, e := marks.Sorts(book, fruits)
		if e != api.OK || looks > len(values) {
			t.Fatalf("%v, %v: no sorts are left of %d, or too many looks: error %d", book, fruits, sort, e)
		}
		mark, e := marks.Next(book, fruits, 0)
		if (e == api.OK) != (len(sorts) > 1) {
			t.Fatalf("%v, %v: Next = %d, %d; Sorts %v", book, fruits, mark, e, sorts)
		}
		if e != api.OK {
			if !slices.Equal(sorts, list(sort)) {
				t.Errorf("%v, %v: Sorts %v; want %d", book, fruits, sorts, sort)
			}
			return looks
		}
		fruits[0][mark] = values[mark]
	}
}
