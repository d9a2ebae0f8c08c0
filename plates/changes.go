package plates

import (
	"iter"

	"pippin/api"
)

// unchanged stands for the judge before whom a plate was changed if it was not: nothing can be changed before the first judge.
const unchanged = 0

// changes has, at the place of each plate, the judge before whom it was changed.
type changes [api.MaxJudgePlates]int

// which returns which quality a plate has for a judge.
func (c changes) which(plate, judge int) int {
	if c[plate] != unchanged && judge >= c[plate] {
		return second
	}
	return first
}

// lists yields all changes of so many plates.
func (t table) lists(many int) iter.Seq[changes] {
	return func(yield func(c changes) bool) {
		// add changes so many plates more, from one on, and reports whether it should go on
		var add func(c changes, from, left int) bool
		add = func(c changes, from, left int) bool {
			if left == 0 {
				return yield(c)
			}
			for plate := from; plate < len(t.Show.Plates); plate++ {
				for judge := 1; judge < t.Show.Judges; judge++ {
					longer := c
					longer[plate] = judge
					if !add(longer, plate+1, left-1) {
						return false
					}
				}
			}
			return true
		}
		add(changes{}, 0, many)
	}
}
