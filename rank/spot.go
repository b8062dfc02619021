package rank

import (
	"iter"

	"chartulary/api"
)

// marks says of each node whether it is meant.
type marks [api.MaxNodes + 1]bool

// among marks the nodes of a list. What can be no node does not count; what stands there twice is there once.
func among(list []int) marks {
	var out marks
	for _, node := range list {
		if 1 <= node && node <= api.MaxNodes {
			out[node] = true
		}
	}
	return out
}

// living goes through those of some nodes that are live, a home ahead of who may stand for it.
func living(home int, others []int, live marks) iter.Seq[int] {
	return func(yield func(int) bool) {
		if live[home] && !yield(home) {
			return
		}
		for _, node := range others {
			if live[node] && !yield(node) {
				return
			}
		}
	}
}

// spots tells who gets a blob, home by home: itself, or the first one of the others that is free.
func spots(homes, others []int, free marks) []api.Spot {
	var out []api.Spot
	for _, home := range homes {
		for node := range living(home, others, free) {
			out = append(out, api.Spot{Node: node, Home: home})
			// Who is taken stands for no home behind.
			free[node] = false
			break
		}
	}
	return out
}
