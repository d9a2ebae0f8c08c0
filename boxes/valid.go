package boxes

import "pippin/api"

// within reports whether a number is one of so many things that are counted from 0.
func within(number, many int) bool {
	return 0 <= number && number < many
}

// validBox takes it that the book and the fruits of the box are valid.
func validBox(x api.Box) bool {
	if x.Trees < 1 || x.Trees > api.MaxBoxTrees || len(x.Tied) > api.MaxBoxTied {
		return false
	}
	for _, pair := range x.Tied {
		if pair.A < 0 || pair.A >= pair.B || pair.B >= len(x.Fruits) {
			return false
		}
	}
	return true
}
