package swim

import (
	"slices"

	"chartulary/api"
	"chartulary/lot"
)

// fullEach is how many times ping it takes from one Full to the next one.
const fullEach = 8

// waitForAnswer asks others to ask who does not answer, and suspects who does not answer them either.
func (s *Swim) waitForAnswer(l *lot.Lots) {
	if s.asked.node == 0 {
		return
	}
	s.asked.age++
	switch node := s.asked.node; s.asked.age {
	case s.ping:
		toEach(s.helpers(node, l), api.Note{Kind: api.NoteAsk, Call: s.asked.call, Home: node}, s.send)
	case 2 * s.ping:
		s.asked = asked{}
		s.hear(api.Member{ID: node, Status: api.Suspect, Inc: s.word(node).Inc}, l)
	}
}

// helpers tells who is asked to ask a node: some of the live others, from one on that is drawn, around the end.
func (s *Swim) helpers(node int, l *lot.Lots) []int {
	all := slices.DeleteFunc(s.liveOthers(), func(other int) bool { return other == node })
	first := l.Pick(len(all))
	return slices.Concat(all[first:], all[:first])[:min(len(all), api.Helpers)]
}

// waitForDoubts holds those for Dead who were suspected long enough.
func (s *Swim) waitForDoubts(l *lot.Lots) {
	s.doubts.grow()
	for _, node := range s.doubts.past(s.suspect) {
		s.hear(api.Member{ID: node, Status: api.Dead, Inc: s.word(node).Inc}, l)
	}
}

// pingNext asks the next node of the round, each ping ticks, if no other one is waited for.
func (s *Swim) pingNext(l *lot.Lots) {
	if s.ticks%s.ping != 0 || s.asked.node != 0 {
		return
	}
	if node := s.round.Next(l); node != 0 {
		s.asked = asked{node: node, call: s.sendPing(node)}
	}
}

// tellAll sends the whole view to one of the others, now and then. Who is not live is told too: else two who hold each other for Dead would never hear of each other again.
func (s *Swim) tellAll(l *lot.Lots) {
	each := fullEach * s.ping
	others := s.others()
	if s.ticks%each != 0 || len(others) == 0 {
		return
	}
	at := (l.Pick(len(others)) + s.ticks/each) % len(others)
	s.send(api.Note{Kind: api.NoteFull, To: others[at]})
}
