package swim_test

import (
	"math/rand"
	"slices"
	"testing"

	"chartulary/api"
	"chartulary/gossip"
	"chartulary/lot"
	"chartulary/probe"
	"chartulary/swim"
	"chartulary/wire"
)

// plain is a swimmer as the document's words say, by lists of what each node has. What gossip, rounds and lots tell is theirs.
type plain struct {
	me, nodes, boot, ping, suspect int
	ticks, calls                   int
	view                           [65]api.Member
	gossip                         *gossip.Gossip
	round                          *probe.Round
	probed, age                    int
	call                           api.Call
	suspected                      [65]bool
	ages                           [65]int
	relays                         []plainRelay
	lots                           *lot.Lots
	out                            []api.Note
}

type plainRelay struct {
	node       int
	call, mine api.Call
}

func plainNew(me, nodes, boot, ping, suspect int, l *lot.Lots) *plain {
	p := &plain{me: me, nodes: nodes, boot: boot, ping: ping, suspect: suspect, lots: l}
	for id := 1; id <= nodes; id++ {
		p.view[id] = alive(id, 0)
	}
	p.gossip, _ = gossip.New(nodes)
	p.gossip.Add(alive(me, 0))
	p.round, _ = probe.New(p.others(false), l)
	return p
}

func (p *plain) others(live bool) []int {
	var out []int
	for id := 1; id <= p.nodes; id++ {
		if id != p.me && (!live || p.view[id].Status < 3) {
			out = append(out, id)
		}
	}
	return out
}

func (p *plain) words() []api.Member {
	return slices.Clone(p.view[1 : p.nodes+1])
}

func (p *plain) live() []int {
	var out []int
	for id := 1; id <= p.nodes; id++ {
		if p.view[id].Status < 3 {
			out = append(out, id)
		}
	}
	return out
}

// send lays a note of what it has beside the words.
func (p *plain) send(kind, to int, c api.Call, home int) {
	x := api.Note{Kind: kind, From: p.me, To: to, Call: c, Home: home}
	if kind == 4 {
		x.Words = p.words()
	} else {
		x.Words = p.gossip.Take(16)
	}
	p.out = append(p.out, x)
}

func (p *plain) another() api.Call {
	p.calls++
	return by(p.me, p.boot, p.calls)
}

func (p *plain) hear(m api.Member) {
	if m.ID > p.nodes {
		return
	}
	was := p.view[m.ID]
	if m.ID == p.me && m.Status != 1 {
		if m.Inc >= was.Inc && m.Inc < most {
			p.view[p.me] = alive(p.me, m.Inc+1)
			p.gossip.Add(p.view[p.me])
		}
		return
	}
	if m.Inc < was.Inc || m.Inc == was.Inc && m.Status <= was.Status {
		return
	}
	p.view[m.ID] = m
	p.gossip.Add(m)
	p.suspected[m.ID], p.ages[m.ID] = m.Status == 2, 0
	there := slices.Contains(p.round.Order(), m.ID)
	switch {
	case m.ID == p.me:
	case m.Status < 3 && !there:
		p.round.Add(m.ID, p.lots)
	case m.Status > 2:
		p.round.Remove(m.ID)
		if p.probed == m.ID {
			p.probed = 0
		}
	}
}

// did tells the notes that were sent since it was asked last.
func (p *plain) did() []api.Note {
	out := p.out
	p.out = nil
	return out
}

func (p *plain) tick() []api.Note {
	if p.view[p.me].Status == 4 {
		return nil
	}
	p.ticks++
	if p.probed != 0 {
		p.age++
		if p.age == p.ping {
			var who []int
			for _, id := range p.others(true) {
				if id != p.probed {
					who = append(who, id)
				}
			}
			first := p.lots.Pick(len(who))
			for n := 0; n < 3 && n < len(who); n++ {
				p.send(3, who[(first+n)%len(who)], p.call, p.probed)
			}
		} else if p.age == p.ping+p.ping {
			id := p.probed
			p.probed = 0
			p.hear(suspect(id, p.view[id].Inc))
		}
	}
	for id := 1; id <= p.nodes; id++ {
		if p.suspected[id] {
			p.ages[id]++
			if p.ages[id] == p.suspect {
				p.hear(dead(id, p.view[id].Inc))
			}
		}
	}
	if p.ticks%p.ping == 0 && p.probed == 0 {
		if id := p.round.Next(p.lots); id != 0 {
			p.probed, p.age, p.call = id, 0, p.another()
			p.send(1, id, p.call, 0)
		}
	}
	if others := p.others(false); p.ticks%(8*p.ping) == 0 && len(others) > 0 {
		p.send(4, others[(p.lots.Pick(len(others))+p.ticks/(8*p.ping))%len(others)], api.Call{}, 0)
	}
	return p.did()
}

func (p *plain) take(x api.Note) []api.Note {
	if p.view[p.me].Status == 4 || x.Kind > 4 || x.To != p.me || x.From > p.nodes || wire.Check(x) != api.OK {
		return nil
	}
	for _, m := range x.Words {
		p.hear(m)
	}
	switch x.Kind {
	case 1:
		p.send(2, x.From, x.Call, 0)
	case 2:
		if p.probed != 0 && x.Call == p.call {
			p.probed = 0
		}
		for i, r := range p.relays {
			if r.mine == x.Call {
				p.relays = slices.Delete(p.relays, i, i+1)
				p.send(2, r.node, r.call, 0)
				break
			}
		}
	case 3:
		if x.Home <= p.nodes && x.Home != p.me && x.Home != x.From {
			p.relays = append(p.relays, plainRelay{x.From, x.Call, p.another()})
			if len(p.relays) > 16 {
				p.relays = p.relays[1:]
			}
			p.send(1, x.Home, by(p.me, p.boot, p.calls), 0)
		}
	case 4:
		back := false
		for id := 1; id <= p.nodes; id++ {
			var came api.Member
			for _, m := range x.Words {
				if m.ID == id && (came.ID == 0 || m.Inc > came.Inc || m.Inc == came.Inc && m.Status > came.Status) {
					came = m
				}
			}
			is := p.view[id]
			back = back || came.ID == 0 || is.Inc > came.Inc || is.Inc == came.Inc && is.Status > came.Status
		}
		if back {
			p.send(4, x.From, api.Call{}, 0)
		}
	}
	return p.did()
}

func (p *plain) leave() ([]api.Note, api.Errno) {
	if p.view[p.me].Status == 4 {
		return nil, api.ErrState
	}
	p.view[p.me].Status = 4
	for _, id := range p.others(true) {
		p.send(4, id, api.Call{}, 0)
	}
	return p.did(), api.OK
}

// both is a swimmer, and its lots, beside one that is as the document's words say, with lots of the same numbers.
type both struct {
	real  *swim.Swim
	plain *plain
	lots  *lot.Lots
	// calls are those of the Pings that were sent.
	calls []api.Call
	// known is set while what is done was held against the document's words already.
	known bool
}

// pair tells a new swimmer, and one by the document's words.
func pair(t *testing.T, me, nodes, boot, ping, suspect int, l ...int) *both {
	t.Helper()
	b := &both{lots: lots(t, l...)}
	s, e := swim.New(me, nodes, boot, ping, suspect, b.lots)
	if e != api.OK {
		t.Fatalf("new %d of %d: %v", me, nodes, e)
	}
	b.real, b.plain = s, plainNew(me, nodes, boot, ping, suspect, lots(t, l...))
	b.holds(t, "new", nil, nil)
	return b
}

// holds asks that both sent the same, of which each note may be, and stand alike.
func (b *both) holds(t *testing.T, what any, got, want []api.Note) {
	t.Helper()
	for _, x := range got {
		if x.Kind == api.NotePing {
			b.calls = append(b.calls, x.Call)
		}
	}
	if b.known {
		return
	}
	if !same(got, want) {
		t.Fatalf("%+v: %+v, not %+v", what, got, want)
	}
	for _, x := range got {
		if e := wire.Check(x); e != api.OK {
			t.Fatalf("%+v: %+v is %v", what, x, e)
		}
	}
	if v, l := b.real.View(), b.real.Live(); !slices.Equal(v, b.plain.words()) || !slices.Equal(l, b.plain.live()) {
		t.Fatalf("%+v: view %v, live %v, not %v, %v", what, v, l, b.plain.words(), b.plain.live())
	}
	if b.lots.Used() != b.plain.lots.Used() {
		t.Fatalf("%+v: %d lots drawn, not %d", what, b.lots.Used(), b.plain.lots.Used())
	}
}

func (b *both) tick(t *testing.T) {
	t.Helper()
	b.holds(t, "tick", b.real.Tick(b.lots), b.plain.tick())
}

func (b *both) take(t *testing.T, x api.Note) {
	t.Helper()
	b.holds(t, x, b.real.Take(x, b.lots), b.plain.take(x))
}

func (b *both) leave(t *testing.T) {
	t.Helper()
	got, e := b.real.Leave()
	want, we := b.plain.leave()
	b.holds(t, "leave", got, want)
	if e != we {
		t.Fatalf("leave: %v, not %v", e, we)
	}
}

// rows does all rows of up to n of such acts, each at a new pair.
func rows(t *testing.T, start func() *both, n int, acts []func(*both), so ...func(*both)) {
	t.Helper()
	b := start()
	for i, a := range so {
		// What comes of a row's beginning was held when that was the row.
		b.known = i < len(so)-1
		a(b)
	}
	if len(so) == n {
		return
	}
	for _, a := range acts {
		rows(t, start, n, acts, append(so[:len(so):len(so)], a)...)
	}
}

// P16.1 to P16.4: all rows of five acts of three nodes, by lots and without.
func TestAllRows(t *testing.T) {
	takes := func(x api.Note) func(*both) {
		return func(b *both) { b.take(t, x) }
	}
	acts := []func(*both){
		func(b *both) { b.tick(t) },
		func(b *both) { b.tick(t); b.tick(t); b.tick(t) },
		func(b *both) { b.leave(t) },
		takes(ping(2, 1, by(2, 1, 1), suspect(3, 0), suspect(1, 0))),
		takes(ping(3, 1, by(3, 1, 1), dead(3, 0), alive(1, 2))),
		takes(ack(3, 1, by(1, 1, 1), alive(3, 1))),
		takes(ask(2, 1, by(2, 1, 7), 3, dead(2, 0))),
		takes(full(2, 1, alive(1, 0), alive(2, 1), suspect(3, 0))),
		func(b *both) { b.take(t, ack(2, 1, by(1, 1, len(b.calls)))) },
	}
	rows(t, func() *both { return pair(t, 1, 3, 1, 1, 2) }, 5, acts)
	rows(t, func() *both { return pair(t, 1, 3, 1, 2, 1, 1, 0, 1, 1, 1, 0, 1) }, 5, acts)
}

// chance tells a note by chance, most of which may be; some have calls of mine.
func (b *both) chance(r *rand.Rand, incs int) api.Note {
	// Beyond the roster too, but not often.
	node := func() int { return 1 + r.Intn(b.plain.nodes+1-min(1, r.Intn(6))) }
	x := api.Note{Kind: 1 + r.Intn(4), From: node(), To: b.plain.me, Call: by(node(), 1+r.Intn(3), 1+r.Intn(40))}
	switch r.Intn(40) {
	case 0:
		x.To = node()
	case 1:
		x.Call = api.Call{}
	case 2:
		x.Kind = 5 + r.Intn(15)
	}
	if len(b.calls) > 0 && r.Intn(4) > 0 {
		x.Call = b.calls[len(b.calls)-1-min(r.Intn(len(b.calls)), r.Intn(20))]
	}
	switch {
	case x.Kind == 3 || r.Intn(60) == 0:
		x.Home = node()
	case x.Kind == 4:
		x.Call = api.Call{}
	}
	if x.Kind == 4 && r.Intn(3) > 0 {
		x.Words = b.plain.words()
	}
	for range r.Intn(4) * r.Intn(3) {
		m := api.Member{ID: node(), Status: 1 + r.Intn(4), Inc: r.Intn(incs)}
		if r.Intn(3) > 0 && m.ID <= b.plain.nodes {
			m.Inc = b.plain.view[m.ID].Inc + r.Intn(3) - 1
		}
		if at := m.ID - 1; at < len(x.Words) && r.Intn(2) == 0 {
			x.Words[at] = m
		} else if len(x.Words) < 64 || r.Intn(50) == 0 {
			x.Words = append(x.Words, m)
		}
	}
	if len(x.Words) > 1 && r.Intn(20) == 0 {
		r.Shuffle(len(x.Words), func(i, j int) { x.Words[i], x.Words[j] = x.Words[j], x.Words[i] })
	}
	return x
}

// P16.1 to P16.5: long rows by chance, at each number of nodes; nothing that is said falls back, and who is Alive answers what is said against him.
func TestLongRows(t *testing.T) {
	r := rand.New(rand.NewSource(16))
	for nodes := 1; nodes <= 64; nodes++ {
		for range 8 {
			var l []int
			for range r.Intn(300) {
				l = append(l, r.Intn(1000))
			}
			b := pair(t, 1+r.Intn(nodes), nodes, 1+r.Intn(1000000), 1+r.Intn(4), 1+r.Intn(12), l...)
			incs := []int{1, 2, 5, most, most + 2}[r.Intn(5)]
			quiet := 1 + r.Intn(9)
			for range 250 {
				was := b.real.View()
				if r.Intn(10) < quiet {
					b.tick(t)
				} else {
					b.take(t, b.chance(r, incs))
				}
				for i, m := range b.real.View() {
					if m != was[i] && (m.Inc < was[i].Inc || m.Inc == was[i].Inc && m.Status < was[i].Status) {
						t.Fatalf("%v falls back to %v", was[i], m)
					}
				}
				if m := b.real.View()[b.plain.me-1]; m.Status != 1 {
					t.Fatalf("I am %v", m)
				}
				if r.Intn(2000) == 0 {
					b.leave(t)
					b.leave(t)
					break
				}
			}
		}
	}
}

// P16.2, P16.3: probes and relays that are answered, late, by others, twice, or not; each Ack's call comes out of a Ping.
func TestAnswersByChance(t *testing.T) {
	r := rand.New(rand.NewSource(163))
	for range 400 {
		nodes := 2 + r.Intn(12)
		b := pair(t, 1+r.Intn(nodes), nodes, 1, 1+r.Intn(5), 1+r.Intn(9), r.Perm(50)...)
		other := func() int { return 1 + (b.plain.me+r.Intn(nodes-1))%nodes }
		for range 300 {
			b.tick(t)
			if r.Intn(3) > 0 && len(b.calls) > 0 {
				b.take(t, ack(other(), b.plain.me, b.calls[len(b.calls)-1-min(r.Intn(len(b.calls)), r.Intn(3))]))
			}
			if r.Intn(4) == 0 {
				b.take(t, ask(other(), b.plain.me, by(1+r.Intn(64), 1, 1+r.Intn(9)), other()))
			}
			if r.Intn(6) == 0 {
				id := other()
				b.take(t, full(id, b.plain.me, alive(id, b.plain.view[id].Inc+1)))
			}
		}
	}
}

// P16.3: notes with all numbers by chance, few of which may be, do nothing, or what they say; none panics.
func TestWildNotes(t *testing.T) {
	r := rand.New(rand.NewSource(164))
	number := func() int {
		return []int{-1 << 63, -1, 0, 1, 1, 2, 2, 3, 3, 4, 5, 64, 65, most, most + 1, 1 << 32, 1<<63 - 1}[r.Intn(17)]
	}
	small := func() int { return []int{1, 2, 3, number()}[r.Intn(4)] }
	taken := 0
	for range 200 {
		b := pair(t, 1+r.Intn(3), 3, 1, 1+r.Intn(2), 1+r.Intn(3), r.Perm(20)...)
		for range 200 {
			x := api.Note{Kind: []int{1, 2, 3, 4, number()}[r.Intn(5)], From: small(), To: []int{b.plain.me, small()}[r.Intn(2)]}
			if r.Intn(2) == 0 {
				x.Call = by(small(), small(), small())
			}
			if r.Intn(3) == 0 {
				x.Home = small()
			}
			for range r.Intn(3) {
				x.Words = append(x.Words, api.Member{ID: small(), Status: small(), Inc: small()})
			}
			switch r.Intn(20) {
			case 0:
				x.Yes = true
			case 1:
				x.IDs = make([]api.ID, 2)
			case 2:
				x.Data = []byte{1}
			case 3:
				x.Set = number()
			case 4:
				x.Other = api.Ballot{N: 1, Node: 1}
			}
			if wire.Check(x) == api.OK && x.Kind <= 4 && x.To == b.plain.me && x.From <= 3 {
				taken++
			}
			b.take(t, x)
			if r.Intn(4) == 0 {
				b.tick(t)
			}
		}
	}
	if taken < 400 {
		t.Errorf("%d notes were taken", taken)
	}
}
