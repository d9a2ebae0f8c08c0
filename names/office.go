package names

import (
	"slices"

	"pippin/api"
)

// joined has, at the place of each name, the first of the names that are one with it.
type joined [api.MaxNames]int

// alone joins no names.
func alone() joined {
	var j joined
	for name := range j {
		j[name] = name
	}
	return j
}

// join makes two names one, and all that are one with either of them.
func (j *joined) join(a, c int) {
	kept, given := min(j[a], j[c]), max(j[a], j[c])
	for name, first := range j {
		if first == given {
			j[name] = kept
		}
	}
}

func (j joined) one(a, c int) bool {
	return j[a] == j[c]
}

// office has a valid book, and joins the names that its letters say are one. The book can contradict itself.
type office struct {
	api.NameBook
	joined
}

func newOffice(b api.NameBook) office {
	o := office{b, alone()}
	for _, l := range b.Letters {
		if l.Same == 1 {
			o.join(l.A, l.B)
		}
	}
	return o
}

// enter returns the office of a book that does not contradict itself, if the names that are asked for are different ones of it.
func enter(b api.NameBook, asked ...int) (office, api.Errno) {
	if !validBook(b) {
		return office{}, api.ErrName
	}
	for at, name := range asked {
		if !within(name, b.Names) || slices.Contains(asked[:at], name) {
			return office{}, api.ErrArg
		}
	}
	o := newOffice(b)
	if o.clashes() {
		return office{}, api.ErrClash
	}
	return o, api.OK
}

// two reports whether a letter says that two names, or names that are one with them, are two.
func (o office) two(a, c int) bool {
	return slices.ContainsFunc(o.Letters, func(l api.NameLetter) bool {
		return l.Same == 0 && (o.one(l.A, a) && o.one(l.B, c) || o.one(l.A, c) && o.one(l.B, a))
	})
}

// says returns whether two names are one in the readings of a book that does not contradict itself: names of which no letter says anything can be one, and can be two.
func (o office) says(a, c int) int {
	switch {
	case o.one(a, c):
		return api.Surely
	case o.two(a, c):
		return api.Never
	}
	return api.Perhaps
}

// of returns the names that are one with a name.
func (o office) of(name int) []int {
	var names []int
	for other := range o.Names {
		if o.one(name, other) {
			names = append(names, other)
		}
	}
	return names
}

// sorts returns how many sorts the names have if no others are one than those that have to be.
func (o office) sorts() int {
	many := 0
	for name := range o.Names {
		if o.joined[name] == name {
			many++
		}
	}
	return many
}
