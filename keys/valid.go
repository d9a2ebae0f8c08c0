package keys

import "pippin/api"

// within reports whether a number is one of so many things that are counted from 0.
func within(number, many int) bool {
	return 0 <= number && number < many
}

func validBook(b api.KeyBook) bool {
	return validMarks(b.Values) && validSorts(b) && validNodes(b)
}

func validMarks(values []int) bool {
	if len(values) < 1 || len(values) > api.MaxKeyMarks {
		return false
	}
	for _, many := range values {
		if many < 2 || many > api.MaxKeyValues {
			return false
		}
	}
	return true
}

// validFruit takes it that the marks of the book are valid, as the functions below do.
func validFruit(b api.KeyBook, fruit []int) bool {
	if len(fruit) != len(b.Values) {
		return false
	}
	for mark, value := range fruit {
		if !within(value, b.Values[mark]) {
			return false
		}
	}
	return true
}

func validSorts(b api.KeyBook) bool {
	if len(b.Sorts) > api.MaxKeySorts {
		return false
	}
	for _, values := range b.Sorts {
		if !validFruit(b, values) {
			return false
		}
	}
	return true
}

func validNodes(b api.KeyBook) bool {
	if len(b.Nodes) < 1 || len(b.Nodes) > api.MaxKeyNodes {
		return false
	}
	for at, node := range b.Nodes {
		if !validQuestion(b, at, node) && !validEnd(b, node) {
			return false
		}
	}
	return true
}

func validQuestion(b api.KeyBook, at int, node api.KeyNode) bool {
	if !within(node.Mark, len(b.Values)) || node.Sort != api.KeyNone || len(node.Next) != b.Values[node.Mark] {
		return false
	}
	for _, next := range node.Next {
		if next <= at || next >= len(b.Nodes) {
			return false
		}
	}
	return true
}

func validEnd(b api.KeyBook, node api.KeyNode) bool {
	named := node.Sort == api.KeyNone || within(node.Sort, len(b.Sorts))
	return node.Mark == api.KeyNone && named && len(node.Next) == 0
}

func checkFruit(b api.KeyBook, fruit []int) api.Errno {
	if e := Check(b); e != api.OK {
		return e
	}
	if !validFruit(b, fruit) {
		return api.ErrArg
	}
	return api.OK
}

// checkAllDiffer is for what can only be asked of sorts that are all told apart by some mark.
func checkAllDiffer(b api.KeyBook) api.Errno {
	if e := Check(b); e != api.OK {
		return e
	}
	for differ := range pairs(b) {
		if differ.many() == 0 {
			return api.ErrNone
		}
	}
	return api.OK
}
