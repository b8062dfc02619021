package probe

import (
	"iter"
	"slices"

	"chartulary/api"
	"chartulary/lot"
)

// may tells whether a node can be.
func may(node int) bool {
	return 1 <= node && node <= api.MaxNodes
}

// place tells where a thing stands, and whether it does.
func place[T comparable](things []T, x T) (int, bool) {
	for at, y := range things {
		if y == x {
			return at, true
		}
	}
	return 0, false
}

// shuffled goes through the numbers from 0 to n - 1 in the order that lots say. They are drawn once, however often it is gone through.
func shuffled(n int, l *lot.Lots) iter.Seq[int] {
	return slices.Values(some(l).Shuffle(n))
}

// permuted tells the nodes in the order in which their places come.
func permuted(nodes []int, places iter.Seq[int]) []int {
	out := make([]int, 0, len(nodes))
	for at := range places {
		out = append(out, nodes[at])
	}
	return out
}

// some tells lots without numbers in the place of none.
func some(l *lot.Lots) *lot.Lots {
	// An order of one draws nothing, and only lots that are none have none.
	if len(l.Shuffle(1)) == 0 {
		l, _ = lot.New(nil)
	}
	return l
}
