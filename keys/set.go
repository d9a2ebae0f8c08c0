package keys

import "math/bits"

// set is some of a few numbers that are counted from 0: of sorts, of marks or of values.
type set uint

func (s set) has(number int) bool {
	return s>>number&1 == 1
}

func (s set) with(number int) set {
	return s | 1<<number
}

func (s set) many() int {
	return bits.OnesCount(uint(s))
}

// list returns the numbers, ascending.
func (s set) list() []int {
	var numbers []int
	for number := range bits.Len(uint(s)) {
		if s.has(number) {
			numbers = append(numbers, number)
		}
	}
	return numbers
}
