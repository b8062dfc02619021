package swim_test

import (
	"math"
	"slices"
	"testing"

	"chartulary/api"
	"chartulary/lot"
	"chartulary/swim"
	"chartulary/wire"
)

const most = 1<<31 - 1

// The words about a node, by their statuses.
func alive(node, inc int) api.Member   { return api.Member{ID: node, Status: 1, Inc: inc} }
func suspect(node, inc int) api.Member { return api.Member{ID: node, Status: 2, Inc: inc} }
func dead(node, inc int) api.Member    { return api.Member{ID: node, Status: 3, Inc: inc} }
func left(node, inc int) api.Member    { return api.Member{ID: node, Status: 4, Inc: inc} }

func by(node, boot, n int) api.Call { return api.Call{Node: node, Boot: boot, N: n} }

// The notes that swimmers send.
func ping(from, to int, c api.Call, words ...api.Member) api.Note {
	return api.Note{Kind: 1, From: from, To: to, Call: c, Words: words}
}

func ack(from, to int, c api.Call, words ...api.Member) api.Note {
	return api.Note{Kind: 2, From: from, To: to, Call: c, Words: words}
}

func ask(from, to int, c api.Call, home int, words ...api.Member) api.Note {
	return api.Note{Kind: 3, From: from, To: to, Call: c, Home: home, Words: words}
}

func full(from, to int, words ...api.Member) api.Note {
	return api.Note{Kind: 4, From: from, To: to, Words: words}
}

// lots tells lots of numbers, where there must be some.
func lots(t *testing.T, l ...int) *lot.Lots {
	t.Helper()
	x, e := lot.New(l)
	if e != api.OK {
		t.Fatalf("lots of %v: %v", l, e)
	}
	return x
}

// made tells a swimmer of the boot 1, where there must be one.
func made(t *testing.T, me, nodes, ping, suspect int, l *lot.Lots) *swim.Swim {
	t.Helper()
	s, e := swim.New(me, nodes, 1, ping, suspect, l)
	if s == nil || e != api.OK {
		t.Fatalf("new %d of %d: %v", me, nodes, e)
	}
	return s
}

// same tells whether notes are the same, one by one.
func same(a, b []api.Note) bool {
	return slices.EqualFunc(a, b, wire.Same)
}

// ticks asks that a Tick sends just these notes.
func ticks(t *testing.T, s *swim.Swim, l *lot.Lots, want ...api.Note) {
	t.Helper()
	if got := s.Tick(l); !same(got, want) {
		t.Errorf("tick: %+v, not %+v", got, want)
	}
}

// silent asks that so many Ticks send nothing.
func silent(t *testing.T, s *swim.Swim, n int) {
	t.Helper()
	for range n {
		ticks(t, s, nil)
	}
}

// takes asks that for a note just these are sent.
func takes(t *testing.T, s *swim.Swim, x api.Note, want ...api.Note) {
	t.Helper()
	if got := s.Take(x, nil); !same(got, want) {
		t.Errorf("take %+v: %+v, not %+v", x, got, want)
	}
}

// hears lets a swimmer hear words by an Ack that is of nothing.
func hears(t *testing.T, s *swim.Swim, from, me int, words ...api.Member) {
	t.Helper()
	takes(t, s, ack(from, me, by(64, most, most), words...))
}

// views asks that a view has just these words.
func views(t *testing.T, s *swim.Swim, want ...api.Member) {
	t.Helper()
	if got := s.View(); !slices.Equal(got, want) {
		t.Errorf("view %v, not %v", got, want)
	}
	var live []int
	for _, m := range want {
		if m.Status <= 2 {
			live = append(live, m.ID)
		}
	}
	if got := s.Live(); !slices.Equal(got, live) {
		t.Errorf("live %v, not %v", got, live)
	}
}

// gone drops all notes of so many Ticks.
func gone(s *swim.Swim, n int) {
	for range n {
		s.Tick(nil)
	}
}

// The document's examples.
func TestExamples(t *testing.T) {
	s := made(t, 1, 3, 2, 3, nil)
	views(t, s, alive(1, 0), alive(2, 0), alive(3, 0))
	ticks(t, s, nil)
	ticks(t, s, nil, ping(1, 3, by(1, 1, 1), alive(1, 0)))
	ticks(t, s, nil)
	ticks(t, s, nil, ask(1, 2, by(1, 1, 1), 3, alive(1, 0)))
	ticks(t, s, nil)
	ticks(t, s, nil, ping(1, 2, by(1, 1, 2), suspect(3, 0), alive(1, 0)))
	views(t, s, alive(1, 0), alive(2, 0), suspect(3, 0))
	takes(t, s, ping(2, 1, by(2, 1, 1), suspect(1, 0)), ack(1, 2, by(2, 1, 1), alive(1, 1), suspect(3, 0)))
	views(t, s, alive(1, 1), alive(2, 0), suspect(3, 0))
}

// P16.1: each number's bounds, from both sides; the first view has all nodes.
func TestNew(t *testing.T) {
	wrong := []int{math.MinInt, -most, -1, 0, 1 << 32, 1<<32 + 1, math.MaxInt}
	asks := func(me, nodes, boot, ping, suspect int, want api.Errno) {
		t.Helper()
		s, e := swim.New(me, nodes, boot, ping, suspect, nil)
		if e != want || (s != nil) != (e == api.OK) {
			t.Errorf("new %d of %d, boot %d, ping %d, suspect %d: %v", me, nodes, boot, ping, suspect, e)
		}
	}
	for nodes := 1; nodes <= 64; nodes++ {
		for me := 1; me <= nodes; me++ {
			asks(me, nodes, 1, 1, 1, api.OK)
			asks(me, nodes, 1000000, 1000000, 1000000, api.OK)
		}
		for _, me := range append(wrong, nodes+1, nodes+2, 65) {
			asks(me, nodes, 1, 1, 1, api.ErrArg)
		}
	}
	for _, nodes := range append(wrong, 65, 66, 128) {
		asks(1, nodes, 1, 1, 1, api.ErrArg)
		asks(nodes, nodes, 1, 1, 1, api.ErrArg)
	}
	for _, n := range append(wrong, 1000001, most) {
		asks(1, 3, n, 1, 1, api.ErrArg)
		asks(1, 3, 1, n, 1, api.ErrArg)
		asks(1, 3, 1, 1, n, api.ErrArg)
	}
	for _, nodes := range []int{1, 2, 64} {
		var all []api.Member
		for id := 1; id <= nodes; id++ {
			all = append(all, alive(id, 0))
		}
		views(t, made(t, nodes, nodes, 1, 1, nil), all...)
	}
}

// P16.1: the round is of the others, rising, by the lots; New that refuses draws none.
func TestNewRound(t *testing.T) {
	l := lots(t, 0, 0, 0, 9)
	s := made(t, 2, 5, 1, 1000, l)
	if l.Used() != 3 {
		t.Errorf("%d lots drawn", l.Used())
	}
	// The others are 1 3 4 5, of which the numbers come as 1 2 3 0.
	for n, to := range []int{3, 4, 5, 1} {
		ticks(t, s, lots(t), ping(2, to, by(2, 1, n+1), alive(2, 0)))
		takes(t, s, ack(to, 2, by(2, 1, n+1)))
	}
	l = lots(t, 3, 2, 1)
	s = made(t, 2, 5, 1, 1000, l)
	for n, to := range []int{1, 3, 4, 5} {
		ticks(t, s, lots(t), ping(2, to, by(2, 1, n+1), alive(2, 0)))
		takes(t, s, ack(to, 2, by(2, 1, n+1)))
	}
	l = lots(t, 1, 1, 1)
	for _, me := range []int{0, 6} {
		if s, e := swim.New(me, 5, 1, 1, 1, l); s != nil || e != api.ErrArg || l.Used() != 0 {
			t.Errorf("new %d: %v, %d lots drawn", me, e, l.Used())
		}
	}
}

// P16.2: a Ping goes each ping ticks, by a call more, with the boot's number, while none is waited for.
func TestTickPings(t *testing.T) {
	for _, every := range []int{1, 2, 3, 7} {
		s, _ := swim.New(3, 3, 1000000, every, 1000000, nil)
		// The round is 2, 1, and then, anew, 1, 2.
		for n, to := range []int{2, 1, 1, 2, 2, 1, 1} {
			silent(t, s, every-1)
			c := by(3, 1000000, n+1)
			if n < 6 {
				ticks(t, s, nil, ping(3, to, c, alive(3, 0)))
			} else {
				ticks(t, s, nil, ping(3, to, c))
			}
			takes(t, s, ack(to, 3, c))
		}
	}
}

// P16.2: a node that does not answer is asked for by others behind ping, and suspected behind twice ping.
func TestTickSuspects(t *testing.T) {
	for _, every := range []int{1, 2, 5} {
		s := made(t, 1, 3, every, 1000, nil)
		gone(s, every)
		silent(t, s, every-1)
		ticks(t, s, nil, ask(1, 2, by(1, 1, 1), 3, alive(1, 0)))
		silent(t, s, every-1)
		views(t, s, alive(1, 0), alive(2, 0), alive(3, 0))
		ticks(t, s, nil, ping(1, 2, by(1, 1, 2), suspect(3, 0), alive(1, 0)))
		views(t, s, alive(1, 0), alive(2, 0), suspect(3, 0))
	}
}

// P16.2: an answer ends the waiting at any time ahead of twice ping; a late one does nothing.
func TestTickAnswered(t *testing.T) {
	for late := range 4 {
		s := made(t, 1, 3, 4, 1000, nil)
		gone(s, 4+late)
		takes(t, s, ack(3, 1, by(1, 1, 1)))
		silent(t, s, 3-late)
		ticks(t, s, nil, ping(1, 2, by(1, 1, 2), alive(1, 0)))
		// Between ping and twice ping.
		s = made(t, 1, 3, 4, 1000, nil)
		gone(s, 8+late)
		takes(t, s, ack(3, 1, by(1, 1, 1)))
		silent(t, s, 3-late)
		ticks(t, s, nil, ping(1, 2, by(1, 1, 2), alive(1, 0)))
		views(t, s, alive(1, 0), alive(2, 0), alive(3, 0))
		// Behind.
		s = made(t, 1, 3, 4, 1000, nil)
		gone(s, 12+late)
		takes(t, s, ack(3, 1, by(1, 1, 1)))
		views(t, s, alive(1, 0), alive(2, 0), suspect(3, 0))
		silent(t, s, 3-late)
		ticks(t, s, nil, ask(1, 3, by(1, 1, 2), 2, suspect(3, 0), alive(1, 0)))
	}
}

// P16.2: an Ack is the probe's by its call alone, whoever sends it; of another call it is none.
func TestTickWhoseAck(t *testing.T) {
	for _, x := range []struct {
		x    api.Note
		ends bool
	}{
		{ack(3, 1, by(1, 1, 1)), true}, {ack(2, 1, by(1, 1, 1)), true},
		{ack(3, 1, by(1, 1, 2)), false}, {ack(3, 1, by(1, 2, 1)), false}, {ack(3, 1, by(3, 1, 1)), false}, {ping(3, 1, by(1, 1, 1)), false},
		{ask(3, 1, by(1, 1, 1), 2), false}, {full(3, 1), false},
	} {
		s := made(t, 1, 3, 1, 1000, nil)
		gone(s, 1)
		s.Take(x.x, nil)
		gone(s, 2)
		want := alive(3, 0)
		if !x.ends {
			want = suspect(3, 0)
		}
		if got := s.View()[2]; got != want {
			t.Errorf("%+v: %v, not %v", x.x, got, want)
		}
	}
}

// P16.2: who is asked: of the live others but that node three at most, from the one that is drawn, around the end.
func TestTickHelpers(t *testing.T) {
	for _, x := range []struct {
		nodes, draw, used int
		dead, want        []int
	}{
		{2, 0, 0, nil, nil},
		{3, 5, 0, nil, []int{1}},
		{4, 0, 1, nil, []int{1, 4}}, {4, 1, 1, nil, []int{4, 1}}, {4, 2, 1, nil, []int{1, 4}},
		{5, 0, 1, nil, []int{1, 4, 5}}, {5, 1, 1, nil, []int{4, 5, 1}}, {5, 2, 1, nil, []int{5, 1, 4}}, {5, 3, 1, nil, []int{1, 4, 5}},
		{7, 0, 1, nil, []int{1, 4, 5}}, {7, 3, 1, nil, []int{6, 7, 1}}, {7, 2, 1, nil, []int{5, 6, 7}}, {7, 9, 1, nil, []int{7, 1, 4}},
		{7, 1, 1, []int{1, 5}, []int{6, 7, 4}}, {7, 1, 0, []int{1, 4, 5, 6}, []int{7}}, {7, 1, 0, []int{1, 4, 5, 6, 7}, nil},
	} {
		// Me is 2, or 1 of two; the first of the round is 3, or 2 of two.
		me, node := 2, 3
		if x.nodes == 2 {
			me, node = 1, 2
		}
		s := made(t, me, x.nodes, 3, 1000, nil)
		for _, id := range x.dead {
			hears(t, s, node, me, dead(id, 0))
		}
		hears(t, s, node, me, suspect(min(x.nodes, 7), 0))
		silent(t, s, 2)
		var to int
		for _, y := range s.Tick(nil) {
			to = y.To
		}
		silent(t, s, 2)
		l := lots(t, x.draw, 0)
		var got []int
		for _, y := range s.Tick(l) {
			if y.Kind != api.NoteAsk || y.Home != to || y.From != me || y.Call != by(me, 1, 1) {
				t.Errorf("%+v: %+v", x, y)
			}
			got = append(got, y.To)
		}
		if to != node || !slices.Equal(got, x.want) || l.Used() != x.used {
			t.Errorf("%+v: for %d asked %v, %d lots drawn", x, to, got, l.Used())
		}
	}
}

// P16.2: who is suspected is Dead when that is suspect ticks old: one tick of these is the one in which a probe ended.
func TestTickDeadByProbe(t *testing.T) {
	for limit := 1; limit <= 9; limit++ {
		s := made(t, 1, 2, 2, limit, nil)
		gone(s, 5)
		for tick := 1; tick <= 12; tick++ {
			gone(s, 1)
			want := suspect(2, 0)
			if tick >= limit {
				want = dead(2, 0)
			}
			if got := s.View()[1]; got != want {
				t.Errorf("suspect %d, tick %d: %v, not %v", limit, tick, got, want)
			}
		}
	}
}

// P16.2: who is suspected by what others say: the first tick is the next one.
func TestTickDeadByWord(t *testing.T) {
	for limit := 1; limit <= 9; limit++ {
		s := made(t, 1, 2, 1000, limit, nil)
		gone(s, limit)
		hears(t, s, 2, 1, suspect(2, 7))
		for tick := 1; tick <= limit; tick++ {
			views(t, s, alive(1, 0), suspect(2, 7))
			gone(s, 1)
		}
		views(t, s, alive(1, 0), dead(2, 7))
	}
}

// P16.2: a Suspect of a greater Inc begins anew, one that is not over the view's does not; whoever is told to be Alive is suspected no more.
func TestTickSuspectedAnew(t *testing.T) {
	s := made(t, 1, 3, 1000, 4, nil)
	hears(t, s, 2, 1, suspect(3, 1), suspect(2, 0))
	gone(s, 3)
	hears(t, s, 2, 1, suspect(3, 1), alive(3, 1), suspect(3, 0))
	gone(s, 1)
	views(t, s, alive(1, 0), dead(2, 0), dead(3, 1))

	s = made(t, 1, 3, 1000, 4, nil)
	hears(t, s, 2, 1, suspect(3, 1), suspect(2, 0))
	gone(s, 3)
	hears(t, s, 2, 1, suspect(3, 2), alive(2, 1))
	gone(s, 3)
	views(t, s, alive(1, 0), alive(2, 1), suspect(3, 2))
	gone(s, 1)
	views(t, s, alive(1, 0), alive(2, 1), dead(3, 2))
	gone(s, 9)
	views(t, s, alive(1, 0), alive(2, 1), dead(3, 2))

	s = made(t, 1, 2, 1000, 4, nil)
	hears(t, s, 2, 1, suspect(2, 0))
	hears(t, s, 2, 1, left(2, 0))
	gone(s, 9)
	views(t, s, alive(1, 0), left(2, 0))
}

// P16.2: each suspicion's age counts by itself, in whatever order they began.
func TestTickManyDead(t *testing.T) {
	s := made(t, 1, 64, 1000, 10, nil)
	for id := 64; id >= 2; id-- {
		hears(t, s, 2, 1, suspect(id, id))
		if id%9 == 0 {
			gone(s, 1)
		}
	}
	for tick := 7; tick <= 18; tick++ {
		for i, m := range s.View()[1:] {
			want := suspect(i+2, i+2)
			// So many of the ticks at 63, 54, and so on, to 9, came behind the word.
			if age := (i+2)/9 + tick - 7; age >= 10 {
				want = dead(i+2, i+2)
			}
			if m != want {
				t.Fatalf("tick %d: %v, not %v", tick, m, want)
			}
		}
		gone(s, 1)
	}
}

// P16.2: Dead goes out of the round, and a probe of it ends; it is back when it is Alive again.
func TestTickRound(t *testing.T) {
	s := made(t, 1, 3, 2, 1, nil)
	gone(s, 5)
	// At the sixth 3 is Suspect and Dead at once.
	ticks(t, s, nil, ping(1, 2, by(1, 1, 2), dead(3, 0), alive(1, 0)))
	takes(t, s, ack(2, 1, by(1, 1, 2)))
	silent(t, s, 1)
	ticks(t, s, nil, ping(1, 2, by(1, 1, 3), dead(3, 0), alive(1, 0)))
	takes(t, s, ack(2, 1, by(1, 1, 3), alive(3, 1)))
	silent(t, s, 1)
	// It stands behind 2, which was told.
	ticks(t, s, nil, ping(1, 3, by(1, 1, 4), alive(3, 1), alive(1, 0)))
	takes(t, s, ack(3, 1, by(1, 1, 4), dead(2, 5)))
	gone(s, 1)
	ticks(t, s, nil, ping(1, 3, by(1, 1, 5), dead(2, 5), alive(3, 1), alive(1, 0)))
	// The probe of 3 ends with it; there is nobody then.
	hears(t, s, 2, 1, dead(3, 1))
	silent(t, s, 1)
	gone(s, 1)
	views(t, s, alive(1, 0), dead(2, 5), dead(3, 1))
	silent(t, s, 1)
	hears(t, s, 2, 1, alive(2, 6))
	ticks(t, s, nil, ping(1, 2, by(1, 1, 6), alive(2, 6), dead(3, 1)), full(1, 3, alive(1, 0), alive(2, 6), dead(3, 1)))
}

// P16.2: who comes back comes in by the lots of that call; who is in the round draws none.
func TestComesBackByLots(t *testing.T) {
	s := made(t, 1, 5, 1, 1000, nil)
	// The round is 3 4 5 2.
	for n, to := range []int{3, 4} {
		gone(s, 1)
		s.Take(ack(to, 1, by(1, 1, n+1)), nil)
	}
	l := lots(t, 7, 8, 1, 2)
	s.Take(ack(2, 1, by(9, 9, 9), dead(3, 0), dead(5, 0), alive(4, 1), suspect(2, 0)), l)
	if l.Used() != 0 {
		t.Errorf("%d lots drawn", l.Used())
	}
	// 4 was told, 2 was not: behind 4 there are two places, and then three.
	s.Take(ack(2, 1, by(9, 9, 9), alive(3, 1), alive(5, 1)), l)
	if l.Used() != 2 {
		t.Errorf("%d lots drawn", l.Used())
	}
	var order []int
	for n := range 3 {
		for _, x := range s.Tick(lots(t, 2)) {
			if x.Kind == api.NotePing {
				order = append(order, x.To)
				s.Take(ack(x.To, 1, by(1, 1, n+3)), nil)
			}
		}
	}
	if !slices.Equal(order, []int{2, 3, 5}) {
		t.Errorf("the order %v", order)
	}
}

// P16.2: each eight times ping the whole view goes to one of the others, live or not.
func TestTickFull(t *testing.T) {
	for _, x := range []struct {
		me, nodes, ping int
		lots            []int
		want            []int
	}{
		{1, 2, 1, nil, []int{2, 2, 2, 2}},
		{2, 4, 1, nil, []int{3, 4, 1, 3, 4}},
		{2, 4, 3, nil, []int{3, 4, 1, 3, 4}},
		{4, 4, 2, []int{0, 1, 2, 3, 1000}, []int{2, 1, 3, 2, 1}},
		{5, 5, 1, []int{1, 1, 4, 6}, []int{3, 4, 4, 3}},
		{1, 1, 1, []int{5}, nil},
	} {
		s := made(t, x.me, x.nodes, x.ping, 1000000, nil)
		for id := 1; id <= x.nodes; id++ {
			if id != x.me {
				hears(t, s, id, x.me, dead(id, 9))
			}
		}
		l := lots(t, x.lots...)
		for _, to := range x.want {
			for range 8*x.ping - 1 {
				ticks(t, s, l)
			}
			ticks(t, s, l, full(x.me, to, s.View()...))
		}
		used := 0
		if x.nodes > 2 {
			used = len(x.want)
		}
		gone(s, 100)
		if l.Used() != used {
			t.Errorf("%+v: %d lots drawn", x, l.Used())
		}
	}
}

// P16.2: what a Tick does goes in order: the Asks, the Dead, the Ping, the Full; lots are drawn in that order.
func TestTickOrder(t *testing.T) {
	s := made(t, 1, 6, 1, 1, nil)
	// The round is 3 4 5 6 2.
	gone(s, 6)
	// Each odd tick holds one for Suspect and Dead, and pings the next one; each even one asks others; the eighth has a Full, too.
	got := s.Tick(lots(t))
	if len(got) != 1 || got[0].Kind != api.NotePing || got[0].To != 6 {
		t.Fatalf("the seventh: %+v", got)
	}
	l := lots(t, 1, 3)
	got = s.Tick(l)
	// Of one helper, 2, nothing is drawn; of 2 to 6 the one of the number 1 and 1 is 4.
	if len(got) != 2 || got[0].Kind != api.NoteAsk || got[0].To != 2 || got[1].Kind != api.NoteFull || got[1].To != 4 || l.Used() != 1 {
		t.Errorf("the eighth: %+v, %d lots drawn", got, l.Used())
	}
	views(t, s, alive(1, 0), alive(2, 0), dead(3, 0), dead(4, 0), dead(5, 0), alive(6, 0))
	got = s.Tick(lots(t))
	if len(got) != 1 || got[0].Kind != api.NotePing || got[0].To != 2 {
		t.Errorf("the ninth: %+v", got)
	}
}

// P16.2: in one tick a Ping goes ahead of a Full, and an order that is drawn anew ahead of who gets that.
func TestTickPingAheadOfFull(t *testing.T) {
	s := made(t, 1, 4, 1, 1000000, lots(t, 2, 1))
	// The round is 2 3 4, each answers.
	for n := 1; n <= 7; n++ {
		for _, x := range s.Tick(lots(t, 2, 1)) {
			s.Take(ack(x.To, 1, x.Call), nil)
		}
	}
	// The fourth order is 2 3 4; the eighth tick has its second one, so that none is drawn, but one for the Full.
	l := lots(t, 1, 1)
	got := s.Tick(l)
	if len(got) != 2 || got[0].Kind != api.NotePing || got[0].To != 3 || got[1].Kind != api.NoteFull || got[1].To != 4 || l.Used() != 1 {
		t.Errorf("%+v, %d lots drawn", got, l.Used())
	}
	s.Take(ack(3, 1, got[0].Call), nil)
	for n := 9; n <= 15; n++ {
		for _, x := range s.Tick(lots(t, 2, 1)) {
			s.Take(ack(x.To, 1, x.Call), nil)
		}
	}
	// The sixteenth begins an order: two lots for that, 4 3 2, one for the Full.
	l = lots(t, 0, 1, 2, 9)
	got = s.Tick(l)
	if len(got) != 2 || got[0].Kind != api.NotePing || got[0].To != 4 || got[1].Kind != api.NoteFull || got[1].To != 3 || l.Used() != 3 {
		t.Errorf("%+v, %d lots drawn", got, l.Used())
	}
}

// P16.3: which notes are let go, with their words: those not to me, of no other one of the roster, of other kinds, and those that may not be.
func TestTakeRefuses(t *testing.T) {
	c := by(2, 1, 1)
	many := make([]api.Member, 65)
	for i := range many {
		many[i] = suspect(3, 5)
	}
	for _, x := range []api.Note{
		{}, ping(2, 3, c, suspect(3, 5)), ping(2, 4, c, suspect(3, 5)), ping(1, 2, c, suspect(3, 5)), ping(1, 1, c, suspect(3, 5)),
		ping(4, 1, c, suspect(3, 5)), ping(64, 1, c, suspect(3, 5)), ping(65, 1, c, suspect(3, 5)), ping(0, 1, c, suspect(3, 5)), ping(-2, 1, c, suspect(3, 5)),
		ping(1<<32+2, 1, c, suspect(3, 5)), ping(2, 1<<32+1, c, suspect(3, 5)), ping(2, 0, c, suspect(3, 5)), ping(2, -1, c, suspect(3, 5)),
		ping(2, 1, api.Call{}, suspect(3, 5)), ping(2, 1, by(65, 1, 1), suspect(3, 5)), ping(2, 1, by(2, 0, 1), suspect(3, 5)), ping(2, 1, by(2, 1, most+1), suspect(3, 5)),
		ping(2, 1, c, suspect(3, 5), alive(0, 0)), ping(2, 1, c, suspect(3, 5), alive(65, 0)), ping(2, 1, c, suspect(3, 5), alive(2, -1)),
		ping(2, 1, c, suspect(3, 5), api.Member{ID: 2}), ping(2, 1, c, suspect(3, 5), api.Member{ID: 2, Status: 5}), ping(2, 1, c, many...),
		ask(2, 1, c, 0, suspect(3, 5)), ask(2, 1, c, 65, suspect(3, 5)), ask(2, 1, api.Call{}, 3, suspect(3, 5)), ack(2, 1, api.Call{}, suspect(3, 5)),
		{Kind: 4, From: 2, To: 1, Call: c, Words: []api.Member{suspect(3, 5)}}, {Kind: 1, From: 2, To: 1, Call: c, Home: 3, Words: []api.Member{suspect(3, 5)}},
		{Kind: 1, From: 2, To: 1, Call: c, Yes: true}, {Kind: 1, From: 2, To: 1, Call: c, Set: 1}, {Kind: 1, From: 2, To: 1, Call: c, Data: []byte{1}},
		{Kind: 0, From: 2, To: 1, Call: c}, {Kind: -1, From: 2, To: 1, Call: c}, {Kind: 20, From: 2, To: 1, Call: c}, {Kind: 1<<32 + 1, From: 2, To: 1, Call: c},
		{Kind: api.NotePut, From: 2, To: 1, Call: c, Set: 1, Home: 1}, {Kind: api.NotePutAck, From: 2, To: 1, Call: c, Set: 1, Home: 1}, {Kind: api.NoteGet, From: 2, To: 1, Call: c},
		{Kind: api.NoteGot, From: 2, To: 1, Call: c}, {Kind: api.NoteLearn, From: 2, To: 1, Call: c, Set: 1}, {Kind: api.NoteDecide, From: 2, To: 1, Set: 1},
		{Kind: api.NoteHintAck, From: 2, To: 1, Call: c, Set: 1}, {Kind: api.NoteMend, From: 2, To: 1, Set: 1}, {Kind: api.NoteWant, From: 2, To: 1, Set: 1},
	} {
		s := made(t, 1, 3, 1, 1000, nil)
		if got := s.Take(x, nil); got != nil {
			t.Errorf("take %+v: %+v", x, got)
		}
		views(t, s, alive(1, 0), alive(2, 0), alive(3, 0))
		ticks(t, s, nil, ping(1, 3, by(1, 1, 1), alive(1, 0)))
	}
}

// P16.3: words of nodes beyond the roster are let go, the others of the note are heard.
func TestHearBeyondTheRoster(t *testing.T) {
	s := made(t, 1, 3, 1, 1000, nil)
	takes(t, s, ping(2, 1, by(2, 1, 1), dead(4, 9), suspect(3, 5), alive(64, 1), alive(2, 4)), ack(1, 2, by(2, 1, 1), alive(1, 0), alive(2, 4), suspect(3, 5)))
	views(t, s, alive(1, 0), alive(2, 4), suspect(3, 5))
	ticks(t, s, nil, ping(1, 3, by(1, 1, 1), alive(1, 0), alive(2, 4), suspect(3, 5)))
}

// P16.3: a Ping is answered by an Ack of its call, whosever that is, with words; who is Dead in the view is answered, too.
func TestTakePing(t *testing.T) {
	s := made(t, 2, 4, 1000, 1000, nil)
	hears(t, s, 4, 2, dead(1, 0))
	for _, c := range []api.Call{by(1, 1, 1), by(3, 7, 9), by(64, most, most)} {
		takes(t, s, ping(4, 2, c), ack(2, 4, c, dead(1, 0), alive(2, 0)))
		takes(t, s, ping(1, 2, c, alive(1, 0)), ack(2, 1, c, dead(1, 0), alive(2, 0)))
	}
}

// P16.3: a node that is told to be suspected itself takes that back at once.
func TestHearOfMe(t *testing.T) {
	for _, x := range []struct {
		word api.Member
		want api.Member
	}{
		{suspect(1, 0), alive(1, 1)}, {dead(1, 0), alive(1, 1)}, {left(1, 0), alive(1, 1)}, {dead(1, 8), alive(1, 9)},
		{left(1, most-1), alive(1, most)}, {alive(1, 0), alive(1, 0)}, {alive(1, 7), alive(1, 7)}, {alive(1, most), alive(1, most)},
		{suspect(1, most), alive(1, 0)}, {dead(1, most), alive(1, 0)}, {left(1, most), alive(1, 0)},
	} {
		s := made(t, 1, 2, 2, 1, nil)
		takes(t, s, ping(2, 1, by(2, 1, 1), x.word), ack(1, 2, by(2, 1, 1), x.want))
		views(t, s, x.want, alive(2, 0))
		// I am never one of my round, nor suspected.
		ticks(t, s, nil)
		for n := 1; n <= 3; n++ {
			got := s.Tick(nil)
			if len(got) != 1 || got[0].To != 2 || got[0].Kind != api.NotePing || got[0].Call != by(1, 1, n) {
				t.Errorf("%v: %+v", x.word, got)
			}
			s.Take(ack(2, 1, by(1, 1, n), suspect(1, 0)), nil)
			silent(t, s, 1)
		}
		if got := s.View()[0]; got != x.want && (x.want.Inc != 0 || got != alive(1, 1)) {
			t.Errorf("%v: %v", x.word, got)
		}
	}
}

// P16.3: what I am behind words about me: the last incarnations too, one word behind the other.
func TestHearOfMeMore(t *testing.T) {
	s := made(t, 1, 2, 1000, 1000, nil)
	hears(t, s, 2, 1, suspect(1, 3), suspect(1, 3), dead(1, 2), alive(1, 4), left(1, 4), alive(1, 6), suspect(1, 5))
	views(t, s, alive(1, 6), alive(2, 0))
	hears(t, s, 2, 1, alive(1, most))
	views(t, s, alive(1, most), alive(2, 0))
	hears(t, s, 2, 1, suspect(1, most-1), dead(1, most), suspect(1, most))
	views(t, s, alive(1, most), alive(2, 0))
	takes(t, s, ping(2, 1, by(2, 1, 1)), ack(1, 2, by(2, 1, 1), alive(1, most)))
}

// P16.3: what is over the view's is there, and is told on; what is not does nothing.
func TestHearOver(t *testing.T) {
	rising := []api.Member{
		alive(3, 0), suspect(3, 0), dead(3, 0), left(3, 0), alive(3, 1), suspect(3, 1), dead(3, 1), left(3, 1), alive(3, 2),
		left(3, most-1), alive(3, most), suspect(3, most), dead(3, most), left(3, most),
	}
	for i, a := range rising {
		for j, b := range rising {
			s := made(t, 1, 3, 1000, 1000, nil)
			hears(t, s, 2, 1, a)
			hears(t, s, 2, 1, b)
			want := rising[max(i, j)]
			views(t, s, alive(1, 0), alive(2, 0), want)
			told := []api.Member{alive(1, 0), want}
			if i+j == 0 {
				told = told[:1]
			}
			takes(t, s, ping(2, 1, by(2, 1, 1)), ack(1, 2, by(2, 1, 1), told...))
			// Told twice at least as often as ever, it would be told again if it had come anew.
			for n := range 5 {
				takes(t, s, ping(2, 1, by(2, 1, 1), a, b), ack(1, 2, by(2, 1, 1), told...))
				if n == 4 {
					takes(t, s, ping(2, 1, by(2, 1, 1), a, b), ack(1, 2, by(2, 1, 1)))
				}
			}
		}
	}
}

// P16.3: an Ask is a Ping by a call of mine; its Ack goes to who asked, once, by whoever it comes.
func TestTakeAsk(t *testing.T) {
	s := made(t, 2, 4, 1000, 1000, nil)
	takes(t, s, ask(1, 2, by(1, 5, 6), 3, suspect(4, 0)), ping(2, 3, by(2, 1, 1), alive(2, 0), suspect(4, 0)))
	takes(t, s, ack(3, 2, by(2, 2, 1)))
	takes(t, s, ack(3, 2, by(1, 5, 6)))
	takes(t, s, ack(3, 2, by(2, 1, 2)))
	takes(t, s, ack(4, 2, by(2, 1, 1), alive(3, 1)), ack(2, 1, by(1, 5, 6), alive(3, 1), alive(2, 0), suspect(4, 0)))
	takes(t, s, ack(3, 2, by(2, 1, 1)))
	// The same Ask once more is another relay; the asker's call may be any.
	takes(t, s, ask(1, 2, by(1, 5, 6), 3), ping(2, 3, by(2, 1, 2), alive(3, 1), alive(2, 0), suspect(4, 0)))
	takes(t, s, ask(1, 2, by(1, 5, 6), 3), ping(2, 3, by(2, 1, 3), alive(3, 1), alive(2, 0), suspect(4, 0)))
	takes(t, s, ask(4, 2, by(2, 1, 2), 1), ping(2, 1, by(2, 1, 4), alive(3, 1), alive(2, 0), suspect(4, 0)))
	takes(t, s, ack(3, 2, by(2, 1, 3)), ack(2, 1, by(1, 5, 6), alive(3, 1), alive(2, 0), suspect(4, 0)))
	takes(t, s, ack(3, 2, by(2, 1, 4)), ack(2, 4, by(2, 1, 2), alive(3, 1), alive(2, 0), suspect(4, 0)))
	takes(t, s, ack(3, 2, by(2, 1, 2)), ack(2, 1, by(1, 5, 6), alive(3, 1), alive(2, 0), suspect(4, 0)))
}

// P16.3: an Ask for me, for the asker, or beyond the roster is none, but its words are heard; a call is made of none of these.
func TestTakeAskOfNone(t *testing.T) {
	s := made(t, 2, 4, 1000, 1000, nil)
	for i, home := range []int{2, 1, 5, 6, 63, 64} {
		takes(t, s, ask(1, 2, by(1, 1, 1), home, suspect(4, i)))
		if got := s.View()[3]; got != suspect(4, i) {
			t.Errorf("home %d: %v", home, got)
		}
	}
	takes(t, s, ask(1, 2, by(1, 1, 1), 4, dead(4, 9)), ping(2, 4, by(2, 1, 1), alive(2, 0), dead(4, 9)))
}

// P16.3: of more than sixteen relays the oldest goes; those that were answered are none any more.
func TestTakeRelays(t *testing.T) {
	for _, n := range []int{1, 15, 16, 17, 18, 40} {
		for _, early := range []int{0, 3, 14} {
			s := made(t, 1, 64, 1000, 1000, nil)
			kept := []int{}
			for i := 1; i <= n; i++ {
				asker := 2 + i%20
				if got := s.Take(ask(asker, 1, by(asker, 1, 100+i), 64), nil); len(got) != 1 || got[0].Call != by(1, 1, i) || got[0].To != 64 {
					t.Fatalf("ask %d: %+v", i, got)
				}
				kept = append(kept, i)
				if len(kept) > 16 {
					kept = kept[1:]
				}
				if i == early {
					s.Take(ack(64, 1, by(1, 1, 2)), nil)
					kept = slices.DeleteFunc(kept, func(k int) bool { return k == 2 })
				}
			}
			for i := n; i >= 1; i-- {
				got := s.Take(ack(64, 1, by(1, 1, i)), nil)
				if is := slices.Contains(kept, i); len(got) != 0 != is {
					t.Errorf("of %d, ack of %d: %+v", n, i, got)
				} else if is && (got[0].To != 2+i%20 || got[0].Call != by(got[0].To, 1, 100+i)) {
					t.Errorf("of %d, ack of %d: %+v", n, i, got)
				}
			}
		}
	}
}

// P16.3: my own probe and the relays share the calls' numbers, and neither ends the other.
func TestTakeCallsRise(t *testing.T) {
	s := made(t, 1, 4, 2, 1000, nil)
	takes(t, s, ask(2, 1, by(2, 1, 9), 4), ping(1, 4, by(1, 1, 1), alive(1, 0)))
	silent(t, s, 1)
	ticks(t, s, nil, ping(1, 3, by(1, 1, 2), alive(1, 0)))
	takes(t, s, ask(2, 1, by(2, 1, 10), 4), ping(1, 4, by(1, 1, 3), alive(1, 0)))
	takes(t, s, ack(4, 1, by(1, 1, 3)), ack(1, 2, by(2, 1, 10), alive(1, 0)))
	takes(t, s, ack(3, 1, by(1, 1, 2)))
	takes(t, s, ack(4, 1, by(1, 1, 1)), ack(1, 2, by(2, 1, 9), alive(1, 0)))
	silent(t, s, 1)
	ticks(t, s, nil, ping(1, 4, by(1, 1, 4), alive(1, 0)))
}

// P16.3: a Full comes back just if something is known that did not come: by words behind those that came.
func TestTakeFull(t *testing.T) {
	for _, x := range []struct {
		before, words, view []api.Member
		back                bool
	}{
		{nil, []api.Member{alive(1, 0), alive(2, 0), alive(3, 0)}, []api.Member{alive(1, 0), alive(2, 0), alive(3, 0)}, false},
		{nil, []api.Member{alive(3, 0), alive(1, 0), alive(2, 0)}, []api.Member{alive(1, 0), alive(2, 0), alive(3, 0)}, false},
		{nil, []api.Member{alive(1, 0), alive(2, 0)}, []api.Member{alive(1, 0), alive(2, 0), alive(3, 0)}, true},
		{nil, []api.Member{alive(2, 0), alive(3, 0)}, []api.Member{alive(1, 0), alive(2, 0), alive(3, 0)}, true},
		{nil, nil, []api.Member{alive(1, 0), alive(2, 0), alive(3, 0)}, true},
		{nil, []api.Member{alive(1, 0), dead(2, 4), suspect(3, 1)}, []api.Member{alive(1, 0), dead(2, 4), suspect(3, 1)}, false},
		{nil, []api.Member{alive(1, 0), alive(2, 0), alive(3, 0), dead(4, 7), left(64, 9)}, []api.Member{alive(1, 0), alive(2, 0), alive(3, 0)}, false},
		{nil, []api.Member{alive(1, 0), alive(2, 0), dead(4, 7)}, []api.Member{alive(1, 0), alive(2, 0), alive(3, 0)}, true},
		{[]api.Member{alive(3, 1)}, []api.Member{alive(1, 0), alive(2, 0), left(3, 0)}, []api.Member{alive(1, 0), alive(2, 0), alive(3, 1)}, true},
		{[]api.Member{suspect(3, 0)}, []api.Member{alive(1, 0), dead(2, 0), alive(3, 0)}, []api.Member{alive(1, 0), dead(2, 0), suspect(3, 0)}, true},
		{[]api.Member{suspect(3, 0)}, []api.Member{alive(1, 0), dead(2, 0), suspect(3, 0)}, []api.Member{alive(1, 0), dead(2, 0), suspect(3, 0)}, false},
		// What is said of me wrongly is taken back at once, by what comes back; what I said before is mine again.
		{nil, []api.Member{suspect(1, 0), alive(2, 0), alive(3, 0)}, []api.Member{alive(1, 1), alive(2, 0), alive(3, 0)}, true},
		{nil, []api.Member{alive(1, 6), alive(2, 0), alive(3, 0)}, []api.Member{alive(1, 6), alive(2, 0), alive(3, 0)}, false},
		{nil, []api.Member{dead(1, most), alive(2, 0), alive(3, 0)}, []api.Member{alive(1, 0), alive(2, 0), alive(3, 0)}, false},
		// Of two words about one node the one is meant that is left of them, in either order.
		{nil, []api.Member{alive(1, 0), alive(2, 0), alive(3, 0), suspect(3, 0)}, []api.Member{alive(1, 0), alive(2, 0), suspect(3, 0)}, false},
		{nil, []api.Member{alive(1, 0), alive(2, 0), suspect(3, 0), alive(3, 0)}, []api.Member{alive(1, 0), alive(2, 0), suspect(3, 0)}, false},
		{[]api.Member{dead(3, 0)}, []api.Member{alive(1, 0), alive(2, 0), suspect(3, 0), alive(3, 0)}, []api.Member{alive(1, 0), alive(2, 0), dead(3, 0)}, true},
	} {
		s := made(t, 1, 3, 1000, 1000, nil)
		hears(t, s, 2, 1, x.before...)
		if x.back {
			takes(t, s, full(3, 1, x.words...), full(1, 3, x.view...))
		} else {
			takes(t, s, full(3, 1, x.words...))
		}
		views(t, s, x.view...)
	}
}

// P16.3: a note sends at most sixteen words, those told least often first; a Full uses none of them up.
func TestWordsAreTold(t *testing.T) {
	s := made(t, 1, 40, 1000, 1000, nil)
	var words []api.Member
	for id := 2; id <= 40; id++ {
		words = append(words, suspect(id, id))
	}
	hears(t, s, 2, 1, words...)
	words = append([]api.Member{alive(1, 0)}, words...)
	takes(t, s, ping(2, 1, by(2, 1, 1)), ack(1, 2, by(2, 1, 1), words[:16]...))
	takes(t, s, full(2, 1), full(1, 2, words...))
	takes(t, s, ask(2, 1, by(2, 1, 1), 3), ping(1, 3, by(1, 1, 1), words[16:32]...))
	takes(t, s, ack(3, 1, by(1, 1, 1)), ack(1, 2, by(2, 1, 1), slices.Concat(words[32:], words[:8])...))
	told := map[api.Member]int{}
	for range 200 {
		for _, m := range s.Take(ping(2, 1, by(2, 1, 1)), nil)[0].Words {
			told[m]++
		}
	}
	for i, m := range words {
		// Each is told eighteen times in all.
		want := 17
		if i < 8 {
			want = 16
		}
		if told[m] != want {
			t.Errorf("%v is told %d times more, not %d", m, told[m], want)
		}
	}
}

// P16.4: who leaves tells it all live others, with the Inc that it has, and is silent from then on.
func TestLeave(t *testing.T) {
	s := made(t, 3, 5, 1, 1000, nil)
	hears(t, s, 1, 3, suspect(3, 6), dead(2, 0), suspect(5, 1))
	view := []api.Member{alive(1, 0), dead(2, 0), left(3, 7), alive(4, 0), suspect(5, 1)}
	got, e := s.Leave()
	if want := []api.Note{full(3, 1, view...), full(3, 4, view...), full(3, 5, view...)}; e != api.OK || !same(got, want) {
		t.Errorf("leave: %v, %+v", e, got)
	}
	l := lots(t, 1, 2, 3)
	for range 20 {
		views(t, s, view...)
		for _, x := range []api.Note{ping(1, 3, by(1, 1, 1), alive(2, 9)), ask(1, 3, by(1, 1, 1), 2), full(1, 3), ack(1, 3, by(3, 1, 1), dead(3, 8))} {
			if got := s.Take(x, l); got != nil {
				t.Errorf("take %+v: %+v", x, got)
			}
		}
		if got := s.Tick(l); got != nil {
			t.Errorf("tick: %+v", got)
		}
		if got, e := s.Leave(); got != nil || e != api.ErrState {
			t.Errorf("leave again: %v, %+v", e, got)
		}
	}
	if l.Used() != 0 {
		t.Errorf("%d lots drawn", l.Used())
	}
}

// P16.4: who is alone, or whose others are not live, leaves to nobody.
func TestLeaveAlone(t *testing.T) {
	s := made(t, 1, 1, 1, 1, nil)
	silent(t, s, 40)
	if got, e := s.Leave(); len(got) != 0 || e != api.OK {
		t.Errorf("leave: %v, %+v", e, got)
	}
	views(t, s, left(1, 0))
	s = made(t, 1, 3, 1000, 1000, nil)
	hears(t, s, 2, 1, left(2, 0), dead(3, 0))
	if got, e := s.Leave(); len(got) != 0 || e != api.OK {
		t.Errorf("leave: %v, %+v", e, got)
	}
	views(t, s, left(1, 0), left(2, 0), dead(3, 0))
}

// Rule 5: what New did not answer is none: nil, what nobody made, and a copy of the fields.
func TestNone(t *testing.T) {
	s := made(t, 1, 3, 1, 1, nil)
	fields := *s
	l := lots(t, 1, 2)
	for i, none := range []*swim.Swim{nil, {}, new(swim.Swim), &fields} {
		for range 9 {
			if none.Tick(l) != nil || none.Take(ping(2, 1, by(2, 1, 1), suspect(3, 0)), l) != nil || none.Take(api.Note{}, nil) != nil || none.View() != nil || none.Live() != nil {
				t.Errorf("%d: tells something", i)
			}
			if got, e := none.Leave(); got != nil || e != api.ErrNil {
				t.Errorf("%d: leave: %v, %+v", i, e, got)
			}
		}
	}
	if l.Used() != 0 {
		t.Errorf("%d lots drawn", l.Used())
	}
	views(t, s, alive(1, 0), alive(2, 0), alive(3, 0))
	ticks(t, s, nil, ping(1, 3, by(1, 1, 1), alive(1, 0)))
}

// Lots that are none are lots without numbers, in each call.
func TestLotsThatAreNone(t *testing.T) {
	some := lots(t, 5, 6, 7)
	copied := *some
	for i, none := range []*lot.Lots{nil, {}, &copied} {
		a, b := made(t, 2, 6, 1, 2, none), made(t, 2, 6, 1, 2, lots(t))
		for n := range 100 {
			if got, want := a.Tick(none), b.Tick(lots(t)); !same(got, want) {
				t.Errorf("%d: tick: %+v, not %+v", i, got, want)
			}
			x := ping(1+n%2*2, 2, by(1, 1, 1), alive(1+n%6, n/4))
			if got, want := a.Take(x, none), b.Take(x, lots(t)); !same(got, want) {
				t.Errorf("%d: take: %+v, not %+v", i, got, want)
			}
		}
	}
	if copied.Used() != 0 || some.Used() != 0 {
		t.Error("lots were drawn")
	}
}

// Rule 4: answers are new memory, their spare room too, and what is handed in is neither changed nor kept.
func TestMemory(t *testing.T) {
	a, b := made(t, 1, 9, 1, 3, nil), made(t, 1, 9, 1, 3, nil)
	wiped := left(9, 99)
	wipe := func(l []api.Member) {
		l = l[:cap(l)]
		for i := range l {
			l[i] = wiped
		}
	}
	for n := range 60 {
		words := []api.Member{suspect(1, n/7), alive(2+n%8, n/9), suspect(2+n%5, n/8)}
		room := append(append(make([]api.Member, 0, 9), words...), wiped)
		for _, x := range []api.Note{ping(2, 1, by(2, 1, 1), words...), full(3, 1, words...), ask(4, 1, by(4, 1, 1+n), 5, words...), ack(5, 1, by(1, 1, n), words...)} {
			y := x
			y.Words = room[:3]
			got, want := a.Take(y, nil), b.Take(x, nil)
			if !same(got, want) || !slices.Equal(room[:4], append(words[:3:3], wiped)) {
				t.Fatalf("%d: take %+v: %+v, not %+v; %v is left", n, x, got, want, room)
			}
			for i := range got {
				wipe(got[i].Words)
				for _, y := range got[i+1:] {
					if slices.Contains(y.Words, wiped) {
						t.Errorf("%d: two notes share words", n)
					}
				}
			}
		}
		wipe(room)
		got, want := a.Tick(nil), b.Tick(nil)
		if !same(got, want) {
			t.Fatalf("%d: tick: %+v, not %+v", n, got, want)
		}
		for i := range got {
			wipe(got[i].Words)
			for _, y := range got[i+1:] {
				if slices.Contains(y.Words, wiped) {
					t.Errorf("%d: two notes share words", n)
				}
			}
		}
		wipe(a.View())
		for i, l := 0, a.Live(); i < len(l); i++ {
			l[:cap(l)][i] = 0
		}
		if !slices.Equal(a.View(), b.View()) || !slices.Equal(a.Live(), b.Live()) {
			t.Fatalf("%d: views are unlike", n)
		}
	}
	got, _ := a.Leave()
	want, _ := b.Leave()
	for i := range got {
		if !wire.Same(got[i], want[i]) {
			t.Errorf("leave: %+v, not %+v", got[i], want[i])
		}
		wipe(got[i].Words)
	}
	if !slices.Equal(a.View(), b.View()) {
		t.Error("views are unlike")
	}
}

// P1: swimmers go on by themselves, and the same calls tell the same.
func TestApart(t *testing.T) {
	a, b, c := made(t, 1, 3, 1, 9, nil), made(t, 1, 3, 1, 9, nil), made(t, 1, 3, 1, 9, nil)
	for _, s := range []*swim.Swim{a, b} {
		ticks(t, s, nil, ping(1, 3, by(1, 1, 1), alive(1, 0)))
		hears(t, s, 2, 1, dead(3, 1))
	}
	takes(t, a, ask(2, 1, by(2, 1, 1), 3), ping(1, 3, by(1, 1, 2), dead(3, 1), alive(1, 0)))
	ticks(t, b, nil, ping(1, 2, by(1, 1, 2), dead(3, 1), alive(1, 0)))
	if _, e := a.Leave(); e != api.OK {
		t.Errorf("leave: %v", e)
	}
	views(t, a, left(1, 0), alive(2, 0), dead(3, 1))
	views(t, b, alive(1, 0), alive(2, 0), dead(3, 1))
	views(t, c, alive(1, 0), alive(2, 0), alive(3, 0))
	ticks(t, c, nil, ping(1, 3, by(1, 1, 1), alive(1, 0)))
}
