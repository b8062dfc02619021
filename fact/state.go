package fact

import (
	"iter"
	"slices"

	"chartulary/api"
)

// fold does facts to a state, one behind the other; ErrArg at the first that may not be. The state's lists are changed.
func fold(s api.State, facts iter.Seq[api.Fact]) (api.State, api.Errno) {
	t := forms()
	for f := range facts {
		if e := t.check(f); e != api.OK {
			return api.State{}, e
		}
		do(&s, f)
	}
	return s, api.OK
}

// do does one fact, which may be, to a state.
func do(s *api.State, f api.Fact) {
	switch f.Kind {
	case api.FactBorn:
		s.Born = true
	case api.FactBoot:
		s.Boot = max(s.Boot, f.Set)
	case api.FactBlob:
		s.Blobs, _ = place(s.Blobs, api.Blob{ID: f.ID, Data: slices.Clone(f.Data)}, blobs)
	case api.FactKeep, api.FactHint:
		refer(s, f)
	case api.FactDone:
		settle(s, f)
	case api.FactPromise, api.FactAccept:
		vote(s, f)
	case api.FactDecide:
		s.Decisions, _ = place(s.Decisions, api.Decision{Set: f.Set, Data: slices.Clone(f.Data)}, decisions)
	case api.FactDrop:
		drop(s, f)
	}
}

// refer has a set keep an id, or a home lack it, if its blob is there.
func refer(s *api.State, f api.Fact) {
	if _, is := slices.BinarySearchFunc(s.Blobs, api.Blob{ID: f.ID}, blobs); !is {
		return
	}
	if f.Kind == api.FactKeep {
		s.Keeps, _ = place(s.Keeps, api.Keep{Set: f.Set, ID: f.ID}, keeps)
		return
	}
	s.Hints, _ = place(s.Hints, hintOf(f), hints)
}

// settle has a home lack an id no more.
func settle(s *api.State, f api.Fact) {
	var is bool
	if s.Hints, is = without(s.Hints, hintOf(f), hints); is {
		release(s, map[api.ID]int{f.ID: 1})
	}
}

// hintOf tells the hint that a fact is about.
func hintOf(f api.Fact) api.Hint {
	return api.Hint{Home: f.Home, Set: f.Set, ID: f.ID}
}

// vote does a Promise, or an Accept, to its set's vote.
func vote(s *api.State, f api.Fact) {
	var at int
	// A new vote does not stay without a promise, for each ballot is greater than none.
	s.Votes, at = place(s.Votes, api.Vote{Set: f.Set}, votes)
	v := &s.Votes[at]
	if ballots(f.Ballot, v.Promise) < 0 {
		return
	}
	v.Promise = f.Ballot
	if f.Kind == api.FactAccept {
		v.Accepted, v.Data = f.Ballot, slices.Clone(f.Data)
	}
}

// drop has nothing kept or lacked of a fact's set.
func drop(s *api.State, f api.Fact) {
	taken := map[api.ID]int{}
	take := func(set int, id api.ID) bool {
		if set != f.Set {
			return false
		}
		taken[id] = 1
		return true
	}
	s.Keeps = slices.DeleteFunc(s.Keeps, func(x api.Keep) bool { return take(x.Set, x.ID) })
	s.Hints = slices.DeleteFunc(s.Hints, func(x api.Hint) bool { return take(x.Set, x.ID) })
	release(s, taken)
}

// release lets those blobs go from which something was taken, and which no set keeps and no home lacks any more.
func release(s *api.State, taken map[api.ID]int) {
	for _, x := range s.Keeps {
		delete(taken, x.ID)
	}
	for _, x := range s.Hints {
		delete(taken, x.ID)
	}
	s.Blobs = slices.DeleteFunc(s.Blobs, func(x api.Blob) bool { return taken[x.ID] > 0 })
}

// voteFacts tells the facts that come to a vote, if it is one: a Promise, and an Accept, if it accepted something. The lesser ballot comes first, for behind the greater one the other would do nothing.
func voteFacts(v api.Vote) []api.Fact {
	if v.Promise.N == 0 {
		return nil
	}
	promise := api.Fact{Kind: api.FactPromise, Set: v.Set, Ballot: v.Promise}
	if v.Accepted.N == 0 {
		return []api.Fact{promise}
	}
	accept := api.Fact{Kind: api.FactAccept, Set: v.Set, Ballot: v.Accepted, Data: v.Data}
	if ballots(v.Promise, v.Accepted) <= 0 {
		return []api.Fact{promise, accept}
	}
	return []api.Fact{accept, promise}
}

// copied tells a state that shares no memory with s.
func copied(s api.State) api.State {
	s.Blobs = cloned(s.Blobs, func(x *api.Blob) *[]byte { return &x.Data })
	s.Keeps = slices.Clone(s.Keeps)
	s.Hints = slices.Clone(s.Hints)
	s.Votes = cloned(s.Votes, func(x *api.Vote) *[]byte { return &x.Data })
	s.Decisions = cloned(s.Decisions, func(x *api.Decision) *[]byte { return &x.Data })
	return s
}

// cloned tells a copy of a list and of the bytes of each thing in it.
func cloned[T any](l []T, bytesOf func(*T) *[]byte) []T {
	l = slices.Clone(l)
	for i := range l {
		b := bytesOf(&l[i])
		*b = slices.Clone(*b)
	}
	return l
}
