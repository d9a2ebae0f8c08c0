package names

import (
	"slices"

	"pippin/api"
)

// within reports whether a number is one of so many things that are counted from 0.
func within(number, many int) bool {
	return 0 <= number && number < many
}

func validBook(b api.NameBook) bool {
	if b.Names < 0 || b.Names > api.MaxNames || len(b.Letters) > api.MaxNameLetters {
		return false
	}
	return !slices.ContainsFunc(b.Letters, func(l api.NameLetter) bool { return !validLetter(b, l) })
}

func validLetter(b api.NameBook, l api.NameLetter) bool {
	return within(l.A, b.Names) && within(l.B, b.Names) && l.A != l.B && within(l.Same, 2)
}
