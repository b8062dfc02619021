package rank

import (
	"cmp"
	"slices"

	"chartulary/api"
	"chartulary/digest"
)

// weighted is a node and its weight for an id.
type weighted struct {
	node   int
	weight uint64
}

// weigh tells a node's weight for an id.
func weigh(id api.ID, node int) uint64 {
	// A node's number is at most 64, so that it is one byte.
	return digest.Weigh(digest.Sum(append(id[:], byte(node))))
}

// weighAll tells each node with its weight for an id.
func weighAll(id api.ID, nodes int) []weighted {
	l := make([]weighted, nodes)
	for i := range l {
		l[i] = weighted{node: i + 1, weight: weigh(id, i+1)}
	}
	return l
}

// ordered tells the nodes, the greater weight first, of the same weight the lesser number first. It sorts l.
func ordered(l []weighted) []int {
	slices.SortFunc(l, func(a, b weighted) int {
		return cmp.Or(cmp.Compare(b.weight, a.weight), cmp.Compare(a.node, b.node))
	})
	out := make([]int, len(l))
	for i, x := range l {
		out[i] = x.node
	}
	return out
}
