package names_test

import (
	"reflect"
	"slices"
	"testing"

	"pippin/api"
	"pippin/cases"
	"pippin/names"
)

func contradictsItself(t *testing.T, b api.NameBook) bool {
	t.Helper()
	_, e := names.Clash(b)
	if e != api.OK && e != api.ErrNone {
		t.Fatalf("Clash of %v: error %d", b, e)
	}
	return e == api.OK
}

// says, ofName and numberOf are for valid books that do not contradict themselves.
func says(t *testing.T, b api.NameBook, a, c int) int {
	t.Helper()
	n, e := names.Says(b, a, c)
	if e != api.OK {
		t.Fatalf("Says of %v, %d, %d: error %d", b, a, c, e)
	}
	return n
}

func ofName(t *testing.T, b api.NameBook, name int) []int {
	t.Helper()
	of, e := names.Of(b, name)
	if e != api.OK {
		t.Fatalf("Of of %v, %d: error %d", b, name, e)
	}
	return of
}

func numberOf(t *testing.T, of func(b api.NameBook) (int, api.Errno), b api.NameBook) int {
	t.Helper()
	n, e := of(b)
	if e != api.OK {
		t.Fatalf("%v: error %d", b, e)
	}
	return n
}

func sortsOf(t *testing.T, b api.NameBook) api.Span {
	t.Helper()
	sorts, e := names.Sorts(b)
	if e != api.OK {
		t.Fatalf("Sorts of %v: error %d", b, e)
	}
	return sorts
}

// eachPair calls a test with each two names of a book, in both orders.
func eachPair(b api.NameBook, test func(a, c int)) {
	for a := range b.Names {
		for c := range b.Names {
			if a != c {
				test(a, c)
			}
		}
	}
}

// eachAgreed calls a test with those books that do not contradict themselves.
func eachAgreed(t *testing.T, test func(d *cases.Dice, b api.NameBook)) {
	eachBook(func(d *cases.Dice, b api.NameBook) {
		if !contradictsItself(t, b) {
			test(d, b)
		}
	})
}

// P4.15 (one sort)
func TestOneSort(t *testing.T) {
	eachAgreed(t, func(_ *cases.Dice, b api.NameBook) {
		for name := range b.Names {
			if !slices.Contains(ofName(t, b, name), name) {
				t.Errorf("%v: Of of %d is %v", b, name, ofName(t, b, name))
			}
		}
		eachPair(b, func(a, c int) {
			of, other := ofName(t, b, a), ofName(t, b, c)
			common := slices.ContainsFunc(of, func(name int) bool { return slices.Contains(other, name) })
			in := slices.Contains(other, a)
			if slices.Contains(of, c) != in || common != in || (says(t, b, a, c) == api.Surely) != in {
				t.Errorf("%v: Of of %d is %v, of %d %v; Says is %d", b, a, of, c, other, says(t, b, a, c))
			}
		})
	})
}

// P4.16 (one more letter)
func TestOneMoreLetter(t *testing.T) {
	eachAgreed(t, func(d *cases.Dice, b api.NameBook) {
		if b.Names < 2 || len(b.Letters) == api.MaxNameLetters {
			return
		}
		places := d.Shuffled(b.Names)
		l := api.NameLetter{A: places[0], B: places[1], Same: d.Below(2)}
		more := with(b, l)
		opposite := api.Never
		if l.Same == 0 {
			opposite = api.Surely
		}
		if contradictsItself(t, more) != (says(t, b, l.A, l.B) == opposite) {
			t.Errorf("%v: Says is %d; one more letter %v", b, says(t, b, l.A, l.B), l)
		}
		if !contradictsItself(t, more) {
			expectNarrower(t, b, more)
		}
	})
}

// expectNarrower checks that a book with one more letter lets no more be than it did.
func expectNarrower(t *testing.T, b, more api.NameBook) {
	t.Helper()
	for name := range b.Names {
		if of, wider := ofName(t, b, name), ofName(t, more, name); !cases.Subset(of, wider) {
			t.Errorf("Of of %v, %d is %v; of %v it is %v", b, name, of, more, wider)
		}
	}
	eachPair(b, func(a, c int) {
		if was, is := says(t, b, a, c), says(t, more, a, c); was != api.Perhaps && is != was {
			t.Errorf("Says of %v, %d, %d is %d; of %v it is %d", b, a, c, was, more, is)
		}
	})
	if was, is := numberOf(t, names.Open, b), numberOf(t, names.Open, more); is > was {
		t.Errorf("Open of %v is %d; of %v it is %d", b, was, more, is)
	}
	if was, is := sortsOf(t, b), sortsOf(t, more); is.Low < was.Low || is.High > was.High {
		t.Errorf("Sorts of %v is %v; of %v it is %v", b, was, more, is)
	}
}

// without returns a list without the element at a place.
func without(numbers []int, place int) []int {
	return slices.Delete(slices.Clone(numbers), place, place+1)
}

// P4.17 (the proof)
func TestProofIsOne(t *testing.T) {
	eachBook(func(_ *cases.Dice, b api.NameBook) {
		proof, e := names.Proof(b)
		if e != api.OK {
			return
		}
		if !contradictsItself(t, only(b, proof)) {
			t.Errorf("%v: Proof is %v, which do not contradict one another", b, proof)
		}
		twos := 0
		for at, number := range proof {
			if contradictsItself(t, only(b, without(proof, at))) {
				t.Errorf("%v: Proof is %v, which contradict one another without %d", b, proof, number)
			}
			twos += 1 - b.Letters[number].Same
		}
		if twos != 1 {
			t.Errorf("%v: Proof is %v, %d of which say that two names are two", b, proof, twos)
		}
	})
}

// P4.18 (what is kept)
func TestWhatIsKept(t *testing.T) {
	eachBook(func(_ *cases.Dice, b api.NameBook) {
		keep, e := names.Keep(b)
		drop := numberOf(t, names.Drop, b)
		if e != api.OK || contradictsItself(t, only(b, keep)) || len(keep)+drop != len(b.Letters) {
			t.Errorf("%v: Keep is %v, %d; Drop is %d", b, keep, e, drop)
		}
		if (drop > 0) != contradictsItself(t, b) {
			t.Errorf("%v: Drop is %d", b, drop)
		}
		twos := 0
		for _, l := range b.Letters {
			twos += 1 - l.Same
		}
		if drop > twos {
			t.Errorf("%v: Drop is %d, but %d letters say that two names are two", b, drop, twos)
		}
		for _, left := range cases.Sets(len(b.Letters)) {
			if len(b.Letters)-len(left) < drop && !contradictsItself(t, only(b, left)) {
				t.Errorf("%v: Drop is %d, but %v do not contradict one another", b, drop, left)
			}
		}
	})
}

// P4.19 (the row)
func TestRowIsOne(t *testing.T) {
	eachAgreed(t, func(_ *cases.Dice, b api.NameBook) {
		eachPair(b, func(a, c int) {
			row, e := names.Row(b, a, c)
			if e != api.OK {
				return
			}
			if says(t, only(b, row), a, c) != api.Surely {
				t.Errorf("%v: Row of %d, %d is %v", b, a, c, row)
			}
			for at := range row {
				if says(t, only(b, without(row, at)), a, c) == api.Surely {
					t.Errorf("%v: Row of %d, %d is %v; %d is not needed", b, a, c, row, row[at])
				}
			}
		})
	})
}

// turned returns a book with its letters and names in another order, and the names of some letters exchanged.
func turned(d *cases.Dice, b api.NameBook, letters, places []int) api.NameBook {
	other := only(b, letters)
	for at, l := range other.Letters {
		l.A, l.B = slices.Index(places, l.A), slices.Index(places, l.B)
		if d.Below(2) == 0 {
			l.A, l.B = l.B, l.A
		}
		other.Letters[at] = l
	}
	return other
}

// P4.20 (any order)
func TestAnyOrder(t *testing.T) {
	eachBook(func(d *cases.Dice, b api.NameBook) {
		letters, places := d.Shuffled(len(b.Letters)), d.Shuffled(b.Names)
		other := turned(d, b, letters, places)
		for i, of := range []func(b api.NameBook) (int, api.Errno){names.Clash, names.Drop, names.Open} {
			n, e := of(b)
			if m, f := of(other); m != n || f != e {
				t.Errorf("%v: %d, %d of the function %d; of %v %d, %d", b, n, e, i, other, m, f)
			}
		}
		sorts, e := names.Sorts(b)
		if again, f := names.Sorts(other); again != sorts || f != e {
			t.Errorf("%v: Sorts %v, %d; of %v %v, %d", b, sorts, e, other, again, f)
		}
		if contradictsItself(t, b) {
			return
		}
		expectTurned(t, b, other, places)
		next, e := names.Next(b)
		straight := turned(d, b, letters, slices.Sorted(slices.Values(places)))
		if again, f := names.Next(straight); again != next || f != e {
			t.Errorf("%v: Next %v, %d; of %v %v, %d", b, next, e, straight, again, f)
		}
	})
}

// expectTurned checks that what is known of names is the same when they have other places.
func expectTurned(t *testing.T, b, other api.NameBook, places []int) {
	t.Helper()
	for name, was := range places {
		if of, back := ofName(t, b, was), cases.Back(ofName(t, other, name), places); !slices.Equal(of, back) {
			t.Errorf("Of of %v, %d is %v; of %v, %d it is %v", b, was, of, other, name, back)
		}
	}
	eachPair(b, func(a, c int) {
		if n, m := says(t, b, places[a], places[c]), says(t, other, a, c); n != m {
			t.Errorf("Says of %v, %d, %d is %d; of %v it is %d", b, places[a], places[c], n, other, m)
		}
		n, e := names.After(b, places[a], places[c])
		if m, f := names.After(other, a, c); n != m || e != f {
			t.Errorf("After of %v, %d, %d is %d, %d; of %v it is %d, %d", b, places[a], places[c], n, e, other, m, f)
		}
		row, e := names.Row(b, places[a], places[c])
		if again, f := names.Row(other, a, c); len(again) != len(row) || e != f {
			t.Errorf("Row of %v, %d, %d is %v, %d; of %v it is %v, %d", b, places[a], places[c], row, e, other, again, f)
		}
	})
}

// lists returns the lists that the functions return.
func lists(b api.NameBook, a, c int) [][]int {
	proof, _ := names.Proof(b)
	keep, _ := names.Keep(b)
	of, _ := names.Of(b, a)
	row, _ := names.Row(b, a, c)
	paint, _ := names.Paint(b)
	return [][]int{proof, keep, of, row, paint}
}

// R4: no argument is changed, not even behind its letters, and no result is a part of one.
func TestNewMemory(t *testing.T) {
	eachBook(func(_ *cases.Dice, b api.NameBook) {
		behind := with(b, two(98, 99))
		was, whole := with(b), with(behind)
		b.Letters = behind.Letters[:len(b.Letters)]
		check := func(a, c int) {
			calls(b, asked{a, c})
			for _, result := range lists(b, a, c) {
				cases.Spoil(result)
			}
		}
		check(0, 1)
		eachPair(b, check)
		if !slices.Equal(b.Letters, was.Letters) || !slices.Equal(behind.Letters, whole.Letters) {
			t.Errorf("%v came to be %v", was, b)
		}
	})
}

// The same arguments have the same results.
func TestTheSameAgain(t *testing.T) {
	eachBook(func(_ *cases.Dice, b api.NameBook) {
		if results, again := lists(b, 0, 1), lists(b, 0, 1); !reflect.DeepEqual(results, again) {
			t.Errorf("%v: %v, and again %v", b, results, again)
		}
	})
}

// R3: nil and empty lists are the same.
func TestNilAndEmpty(t *testing.T) {
	for many := range api.MaxNames + 1 {
		outcomes := calls(api.NameBook{Names: many, Letters: []api.NameLetter{}}, asked{0, 1})
		if others := calls(api.NameBook{Names: many}, asked{0, 1}); !slices.Equal(outcomes, others) {
			t.Errorf("%v of empty; %v of nil", outcomes, others)
		}
	}
}

// P1 (DOC.md): every function terminates, and none panics, whatever its arguments are; R2 holds for them, too.
func TestAnyArguments(t *testing.T) {
	eachBook(func(d *cases.Dice, b api.NameBook) {
		what := d.Below(4)
		if what == 0 || what == 3 {
			b.Names = d.Odd()
		}
		if what == 1 || what == 3 {
			b.Letters = nil
			for range d.Below(15) {
				b.Letters = append(b.Letters, api.NameLetter{A: d.Odd(), B: d.Odd(), Same: d.Odd()})
			}
		}
		for range 3 {
			x := asked{d.Odd(), d.Odd()}
			cases.ExpectNothingElse(t, calls(b, x), b, x)
		}
	})
	cases.ExpectError(t, "a long list", calls(book(2, make([]api.NameLetter, 1<<20)...), asked{0, 1}), api.ErrName)
}
