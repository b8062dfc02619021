package swim

import (
	"slices"

	"chartulary/api"
)

// gathered tells the notes that are sent while something is done.
func (s *Swim) gathered(do func()) []api.Note {
	var out []api.Note
	s.send = func(x api.Note) { out = append(out, s.signed(x)) }
	do()
	s.send = nil
	return out
}

// signed tells a note from me, with words that are still to be told, or of a Full with the whole view.
func (s *Swim) signed(x api.Note) api.Note {
	x.From = s.me
	if x.Kind == api.NoteFull {
		x.Words = slices.Clone(s.view)
	} else {
		x.Words = s.gossip.Take(api.MaxWords)
	}
	return x
}

// sendPing asks a node by a call more, and tells that call.
func (s *Swim) sendPing(node int) api.Call {
	s.calls++
	call := api.Call{Node: s.me, Boot: s.boot, N: s.calls}
	s.send(api.Note{Kind: api.NotePing, To: node, Call: call})
	return call
}

// toEach hands a note on to send, once for each of these nodes.
func toEach(nodes []int, x api.Note, send func(api.Note)) {
	for _, node := range nodes {
		x.To = node
		send(x)
	}
}
