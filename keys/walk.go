package keys

import (
	"iter"
	"slices"

	"pippin/api"
)

// walk yields the nodes to which a fruit comes, in their order. It ends because each next node stands behind its question.
func walk(b api.KeyBook, fruit []int) iter.Seq[int] {
	return func(yield func(node int) bool) {
		for at := 0; yield(at); {
			node := b.Nodes[at]
			if node.Mark == api.KeyNone {
				return
			}
			at = node.Next[fruit[node.Mark]]
		}
	}
}

// end returns what the last node of a walk names.
func end(b api.KeyBook, fruit []int) int {
	sort := api.KeyNone
	for node := range walk(b, fruit) {
		sort = b.Nodes[node].Sort
	}
	return sort
}

// questions counts the nodes of a walk but the last one, which is an end.
func questions(b api.KeyBook, fruit []int) int {
	many := -1
	for range walk(b, fruit) {
		many++
	}
	return many
}

func comes(b api.KeyBook, node int) []int {
	var sorts []int
	for sort, values := range b.Sorts {
		for at := range walk(b, values) {
			if at == node {
				sorts = append(sorts, sort)
			}
		}
	}
	return sorts
}

// idle returns the questions to which fruits come with one value alone.
func idle(b api.KeyBook) []int {
	came := make([]set, len(b.Nodes))
	for fruit := range allFruits().fruits(b.Values) {
		for at := range walk(b, fruit) {
			if mark := b.Nodes[at].Mark; mark != api.KeyNone {
				came[at] = came[at].with(fruit[mark])
			}
		}
	}
	var found []int
	for at, values := range came {
		if values.many() == 1 {
			found = append(found, at)
		}
	}
	return found
}

func deep(b api.KeyBook) api.Span {
	span := api.Span{Low: len(b.Nodes)}
	for fruit := range allFruits().fruits(b.Values) {
		many := questions(b, fruit)
		span.Low = min(span.Low, many)
		span.High = max(span.High, many)
	}
	return span
}

// cube is all fruits that have some values: of each mark one value, or any (api.KeyNone).
type cube [api.MaxKeyMarks]int

func allFruits() cube {
	var c cube
	for mark := range c {
		c[mark] = api.KeyNone
	}
	return c
}

// fruits yields the fruits of a cube, whose marks have so many values. It is the same list each time, with other values.
func (c cube) fruits(values []int) iter.Seq[[]int] {
	return func(yield func(fruit []int) bool) {
		fruit := slices.Clone(c[:len(values)])
		for mark := range fruit {
			fruit[mark] = max(fruit[mark], 0)
		}
		for yield(fruit) && c.step(fruit, values) {
		}
	}
}

// step makes a fruit the next one of the cube, if there is one. It counts with the marks that can have any value as its digits.
func (c cube) step(fruit, values []int) bool {
	for mark := range fruit {
		if c[mark] != api.KeyNone {
			continue
		}
		fruit[mark]++
		if fruit[mark] < values[mark] {
			return true
		}
		fruit[mark] = 0
	}
	return false
}

// parts returns the cubes into which a mark parts a cube: the cube itself if it has one value of the mark alone.
func (c cube) parts(mark, values int) []cube {
	if c[mark] != api.KeyNone {
		return []cube{c}
	}
	var found []cube
	for value := range values {
		c[mark] = value
		found = append(found, c)
	}
	return found
}

// oneEnd reports whether the key names the same for all fruits of a cube.
func (c cube) oneEnd(b api.KeyBook) bool {
	var ends set
	for fruit := range c.fruits(b.Values) {
		ends = ends.with(end(b, fruit) - api.KeyNone)
	}
	return ends.many() == 1
}
