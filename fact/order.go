package fact

import (
	"cmp"
	"slices"

	"chartulary/api"
	"chartulary/digest"
)

// place tells a rising list that has x, and where: as it was there already, or else new at its place. What is taken as the same by order is there once.
func place[T any](l []T, x T, order func(a, b T) int) ([]T, int) {
	at, is := slices.BinarySearchFunc(l, x, order)
	if is {
		return l, at
	}
	return slices.Insert(l, at, x), at
}

// without tells a rising list without x, and whether that was there.
func without[T any](l []T, x T, order func(a, b T) int) ([]T, bool) {
	at, is := slices.BinarySearchFunc(l, x, order)
	if is {
		l = slices.Delete(l, at, at+1)
	}
	return l, is
}

func ids(a, b api.ID) int {
	switch {
	case digest.Less(a, b):
		return -1
	case a == b:
		return 0
	default:
		return 1
	}
}

func ballots(a, b api.Ballot) int {
	return cmp.Or(cmp.Compare(a.N, b.N), cmp.Compare(a.Node, b.Node))
}

func blobs(a, b api.Blob) int {
	return ids(a.ID, b.ID)
}

func keeps(a, b api.Keep) int {
	return cmp.Or(cmp.Compare(a.Set, b.Set), ids(a.ID, b.ID))
}

func hints(a, b api.Hint) int {
	return cmp.Or(cmp.Compare(a.Home, b.Home), cmp.Compare(a.Set, b.Set), ids(a.ID, b.ID))
}

func votes(a, b api.Vote) int {
	return cmp.Compare(a.Set, b.Set)
}

func decisions(a, b api.Decision) int {
	return cmp.Compare(a.Set, b.Set)
}
