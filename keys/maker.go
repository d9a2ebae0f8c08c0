package keys

import (
	"slices"

	"pippin/api"
)

// maker writes the nodes of a key down from its ends to its first question, because the end that names no sort serves for all questions, and has to stand behind them.
type maker struct {
	search[set]
	nodes []api.KeyNode
	// places are those of the sets of sorts that have a node.
	places map[set]int
}

func newMaker(b api.KeyBook) *maker {
	return &maker{search: searchNames(b, worst[set]), places: map[set]int{}}
}

// key returns the nodes of a key that names the sorts of a set.
func (m *maker) key(sorts set) []api.KeyNode {
	m.place(sorts)
	slices.Reverse(m.nodes)
	last := len(m.nodes) - 1
	for _, node := range m.nodes {
		for value, next := range node.Next {
			node.Next[value] = last - next
		}
	}
	return m.nodes
}

// place returns where the node stands that parts or names the sorts of a set.
func (m *maker) place(sorts set) int {
	at, known := m.places[sorts]
	if !known {
		node := m.node(sorts)
		at = len(m.nodes)
		m.nodes = append(m.nodes, node)
		m.places[sorts] = at
	}
	return at
}

func (m *maker) node(sorts set) api.KeyNode {
	if m.done(sorts) {
		return endOf(sorts)
	}
	mark, _ := m.question(sorts)
	node := api.KeyNode{Mark: mark, Sort: api.KeyNone}
	for _, part := range m.parts(sorts, mark) {
		next := m.place(part)
		node.Next = append(node.Next, next)
	}
	return node
}

// endOf returns the end of a set that has one sort or none.
func endOf(sorts set) api.KeyNode {
	end := api.KeyNode{Mark: api.KeyNone, Sort: api.KeyNone}
	for _, sort := range sorts.list() {
		end.Sort = sort
	}
	return end
}
