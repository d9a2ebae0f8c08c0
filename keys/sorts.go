package keys

import (
	"iter"

	"pippin/api"
)

func allSorts(b api.KeyBook) set {
	var all set
	for sort := range b.Sorts {
		all = all.with(sort)
	}
	return all
}

// partSorts returns the sorts that have each value of a mark, of those of a set.
func partSorts(b api.KeyBook, sorts set, mark int) []set {
	parts := make([]set, b.Values[mark])
	for _, sort := range sorts.list() {
		value := b.Sorts[sort][mark]
		parts[value] = parts[value].with(sort)
	}
	return parts
}

// apart returns the marks of which two sorts do not have the same value.
func apart(b api.KeyBook, sort, other int) set {
	var differ set
	for mark := range b.Values {
		if b.Sorts[sort][mark] != b.Sorts[other][mark] {
			differ = differ.with(mark)
		}
	}
	return differ
}

// pairs yields, for each two sorts, the marks that tell them apart.
func pairs(b api.KeyBook) iter.Seq[set] {
	return func(yield func(differ set) bool) {
		for sort := range b.Sorts {
			for other := range sort {
				if !yield(apart(b, sort, other)) {
					return
				}
			}
		}
	}
}

// few takes it that all sorts differ.
func few(b api.KeyBook) int {
	least := len(b.Values)
	for marks := range set(1) << len(b.Values) {
		if marks.many() < least && tellAll(b, marks) {
			least = marks.many()
		}
	}
	return least
}

// tellAll reports whether some marks tell each two sorts apart.
func tellAll(b api.KeyBook, marks set) bool {
	for differ := range pairs(b) {
		if differ&marks == 0 {
			return false
		}
	}
	return true
}

func need(b api.KeyBook) set {
	var marks set
	for differ := range pairs(b) {
		if differ.many() == 1 {
			marks |= differ
		}
	}
	return marks
}
