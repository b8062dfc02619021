package swim

import (
	"slices"

	"chartulary/api"
	"chartulary/lot"
	"chartulary/member"
	"chartulary/view"
)

// word is the place in the view of the word about a node of the roster.
func (s *Swim) word(node int) *api.Member {
	return &s.view[node-1]
}

// hold takes a word into the view, and will tell it.
func (s *Swim) hold(m api.Member) {
	*s.word(m.ID) = m
	s.gossip.Add(m)
}

// hear takes in a word, if it is over the one in the view, and does what hangs on that.
func (s *Swim) hear(m api.Member, l *lot.Lots) {
	if !within(m.ID, s.nodes) {
		return
	}
	if m.ID == s.me {
		s.hearOfMe(m)
		return
	}
	if !member.Over(m, *s.word(m.ID)) {
		return
	}
	s.hold(m)
	if m.Status == api.Suspect {
		s.doubts.begin(m.ID)
	} else {
		s.doubts.end(m.ID)
	}
	if member.Live(m) {
		s.round.Add(m.ID, l)
		return
	}
	s.round.Remove(m.ID)
	if s.asked.node == m.ID {
		s.asked = asked{}
	}
}

// hearOfMe answers a word about me. What I said in an earlier boot with a greater incarnation is mine again: else others would hold of me what I do not.
func (s *Swim) hearOfMe(m api.Member) {
	was := *s.word(s.me)
	if is, _, e := member.Refute(was, m); e == api.OK && is != was {
		s.hold(is)
	}
}

// others tells all nodes but me, rising.
func (s *Swim) others() []int {
	var out []int
	for _, m := range s.view {
		if m.ID != s.me {
			out = append(out, m.ID)
		}
	}
	return out
}

// liveOthers tells the live nodes but me, rising.
func (s *Swim) liveOthers() []int {
	return slices.DeleteFunc(view.Live(s.view), func(node int) bool { return node == s.me })
}

// knowsMore tells whether the view has what is not in words that came. Of several about one node the one is meant that is left of them.
func (s *Swim) knowsMore(words []api.Member) bool {
	came, _, _ := view.Merge(nil, words)
	_, more, _ := view.Merge(came, s.view)
	return len(more) > 0
}
