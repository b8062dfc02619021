package view

import (
	"cmp"
	"iter"
	"slices"

	"chartulary/api"
	"chartulary/member"
)

// by tells how things are held against a key, for a search in what rises by that key.
func by[T any, K cmp.Ordered](key func(T) K) func(T, K) int {
	return func(x T, k K) int { return cmp.Compare(key(x), k) }
}

// nodeOf tells whom a word is about.
func nodeOf(m api.Member) int {
	return m.ID
}

// find tells where in a view the word of a node stands, or would stand, and whether it does.
func find(v []api.Member, node int) (int, bool) {
	return slices.BinarySearchFunc(v, node, by(nodeOf))
}

// heard merges a word that may be into a view, whose memory it uses up.
func heard(v []api.Member, m api.Member) []api.Member {
	at, is := find(v, m.ID)
	if !is {
		return slices.Insert(v, at, m)
	}
	v[at], _ = member.Merge(v[at], m)
	return v
}

// news goes through the words of a view that an earlier one has not, both at once, for both rise.
func news(was, is []api.Member) iter.Seq[api.Member] {
	return func(yield func(api.Member) bool) {
		at := 0
		for _, m := range is {
			for at < len(was) && was[at].ID < m.ID {
				at++
			}
			if at < len(was) && was[at] == m {
				continue
			}
			if !yield(m) {
				return
			}
		}
	}
}
