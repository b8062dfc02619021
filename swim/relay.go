package swim

import (
	"cmp"
	"maps"
	"slices"

	"chartulary/api"
)

// asker is who asked me to ask a node, and by which call.
type asker struct {
	node int
	call api.Call
}

// relays are those who asked, each by my own call for that.
type relays map[api.Call]asker

// put keeps who asked, and lets the oldest one go, if there are too many.
func (r relays) put(mine api.Call, who asker) {
	r[mine] = who
	if len(r) > api.MaxRelays {
		// All are calls of one boot, whose numbers rise.
		delete(r, slices.MinFunc(slices.Collect(maps.Keys(r)), func(a, b api.Call) int { return cmp.Compare(a.N, b.N) }))
	}
}

// pass sends an answer to my call on to who asked for it, if somebody did.
func (r relays) pass(mine api.Call, send func(api.Note)) {
	who, is := r[mine]
	if !is {
		return
	}
	delete(r, mine)
	send(api.Note{Kind: api.NoteAck, To: who.node, Call: who.call})
}
