package swim

import "chartulary/api"

// answer does what a note asks for, behind its words.
func (s *Swim) answer(x api.Note) {
	switch x.Kind {
	case api.NotePing:
		s.send(api.Note{Kind: api.NoteAck, To: x.From, Call: x.Call})
	case api.NoteAck:
		// While there is no probe its call is of no node, as none that comes is.
		if x.Call == s.asked.call {
			s.asked = asked{}
		}
		s.relays.pass(x.Call, s.send)
	case api.NoteAsk:
		if within(x.Home, s.nodes) && x.Home != s.me && x.Home != x.From {
			s.relays.put(s.sendPing(x.Home), asker{x.From, x.Call})
		}
	case api.NoteFull:
		if s.knowsMore(x.Words) {
			s.send(api.Note{Kind: api.NoteFull, To: x.From})
		}
	}
}
