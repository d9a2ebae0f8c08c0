package names_test

import (
	"testing"

	"pippin/api"
	"pippin/boxes"
	"pippin/cases"
	"pippin/names"
)

// P0.12 (the box and its letters)
func TestBoxAndLetters(t *testing.T) {
	d := cases.Dice(12)
	for range 1000 {
		x := d.Box()
		trees, e := boxes.Trees(x)
		if e != api.OK {
			continue
		}
		b := lettersOf(t, x)
		if clash, e := names.Clash(b); e != api.ErrNone {
			t.Errorf("%v: the letters %v: Clash = %d, %d", x, b, clash, e)
			continue
		}
		for a := range x.Fruits {
			for c := range x.Fruits {
				if a != c {
					expectAsTogether(t, x, b, a, c)
				}
			}
		}
		if sorts, e := names.Sorts(b); sorts.Low > trees || sorts.High < trees || e != api.OK {
			t.Errorf("%v: the letters %v: Sorts = %v, %d; Trees is %d", x, b, sorts, e, trees)
		}
	}
}

// lettersOf returns what is known of each two fruits of a box as letters on as many names.
func lettersOf(t *testing.T, x api.Box) api.NameBook {
	t.Helper()
	b := book(len(x.Fruits))
	for c := range x.Fruits {
		for a := range c {
			known, e := boxes.Together(x, a, c)
			if e != api.OK {
				t.Fatalf("Together of %v, %d, %d: error %d", x, a, c, e)
			}
			switch known {
			case api.Surely:
				b.Letters = append(b.Letters, one(a, c))
			case api.Never:
				b.Letters = append(b.Letters, two(a, c))
			}
		}
	}
	return b
}

func expectAsTogether(t *testing.T, x api.Box, b api.NameBook, a, c int) {
	t.Helper()
	want, _ := boxes.Together(x, a, c)
	if says, e := names.Says(b, a, c); says != want || e != api.OK {
		t.Errorf("%v: the letters %v: Says of %d, %d = %d, %d; Together is %d", x, b, a, c, says, e, want)
	}
}
