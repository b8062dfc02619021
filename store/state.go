package store

import (
	"slices"

	"chartulary/api"
	"chartulary/fact"
)

// folded tells the state that the facts of records come to; ErrCorrupt, if a record is none of facts.
func folded(records [][]byte) (api.State, api.Errno) {
	l, e := gathered(records)
	if e != api.OK {
		return api.State{}, e
	}
	return fact.Fold(l)
}

// behind tells the state behind facts; s stays.
func behind(s api.State, l []api.Fact) (api.State, api.Errno) {
	for _, f := range l {
		next, e := fact.Apply(s, f)
		if e != api.OK {
			return api.State{}, e
		}
		s = next
	}
	return s, api.OK
}

// great tells whether a state is too great. Of a set there is one vote, and one decision.
func great(s api.State) bool {
	return over(s.Blobs, api.MaxBlobs) || over(s.Hints, api.MaxHints) || over(s.Votes, api.MaxSets) || over(s.Decisions, api.MaxSets)
}

// over tells whether a list has more than so many things.
func over[T any](l []T, most int) bool {
	return len(l) > most
}

// copied tells a state that shares no memory with s.
func copied(s api.State) api.State {
	s.Blobs = cloned(s.Blobs, func(x *api.Blob) { x.Data = slices.Clone(x.Data) })
	s.Keeps, s.Hints = slices.Clone(s.Keeps), slices.Clone(s.Hints)
	s.Votes = cloned(s.Votes, func(x *api.Vote) { x.Data = slices.Clone(x.Data) })
	s.Decisions = cloned(s.Decisions, func(x *api.Decision) { x.Data = slices.Clone(x.Data) })
	return s
}

// cloned tells a copy of a list; part gives each thing in it memory of its own.
func cloned[T any](l []T, part func(*T)) []T {
	l = slices.Clone(l)
	for i := range l {
		part(&l[i])
	}
	return l
}
