package gossip_test

import (
	"math"
	"slices"
	"testing"

	"chartulary/api"
	"chartulary/gossip"
)

const most = 1<<31 - 1

// The words about a node, by their statuses.
func alive(node, inc int) api.Member   { return api.Member{ID: node, Status: 1, Inc: inc} }
func suspect(node, inc int) api.Member { return api.Member{ID: node, Status: 2, Inc: inc} }
func dead(node, inc int) api.Member    { return api.Member{ID: node, Status: 3, Inc: inc} }
func left(node, inc int) api.Member    { return api.Member{ID: node, Status: 4, Inc: inc} }

// made tells a buffer of so many nodes, where there must be one.
func made(t *testing.T, nodes int) *gossip.Gossip {
	t.Helper()
	g, e := gossip.New(nodes)
	if g == nil || e != api.OK {
		t.Fatalf("new of %d: %v", nodes, e)
	}
	return g
}

// adds asks that a word that may be is put, or is not.
func adds(t *testing.T, g *gossip.Gossip, m api.Member, want bool) {
	t.Helper()
	if is, e := g.Add(m); is != want || e != api.OK {
		t.Errorf("add %v: %v, %v", m, is, e)
	}
}

// refuses asks that a word is ErrArg.
func refuses(t *testing.T, g *gossip.Gossip, m api.Member) {
	t.Helper()
	if is, e := g.Add(m); is || e != api.ErrArg {
		t.Errorf("add %v: %v, %v", m, is, e)
	}
}

// takes asks that a Take tells just these words.
func takes(t *testing.T, g *gossip.Gossip, n int, want ...api.Member) {
	t.Helper()
	if l := g.Take(n); !slices.Equal(l, want) {
		t.Errorf("take %d: %v, not %v", n, l, want)
	}
}

// has asks that there are so many words.
func has(t *testing.T, g *gossip.Gossip, want int) {
	t.Helper()
	if n := g.Len(); n != want {
		t.Errorf("%d words, not %d", n, want)
	}
}

// The document's examples.
func TestExamples(t *testing.T) {
	g := made(t, 5)
	if n := g.Limit(); n != 9 {
		t.Errorf("the limit of 5: %d", n)
	}
	adds(t, g, alive(2, 1), true)
	adds(t, g, alive(2, 0), false)
	adds(t, g, dead(2, 1), true)
	adds(t, g, alive(1, 0), true)
	has(t, g, 2)
	takes(t, g, 1, alive(1, 0))
	takes(t, g, 1, dead(2, 1))
	takes(t, g, 5, alive(1, 0), dead(2, 1))
	takes(t, g, 0)
	refuses(t, g, alive(6, 0))
	if g, e := gossip.New(0); g != nil || e != api.ErrArg {
		t.Errorf("new of 0: %v", e)
	}
}

// P13.1: buffers are of 1 to 64 nodes, begin without words, and their limit rises with each power of two.
func TestNew(t *testing.T) {
	for _, x := range []struct{ from, to, limit int }{{1, 1, 3}, {2, 3, 6}, {4, 7, 9}, {8, 15, 12}, {16, 31, 15}, {32, 63, 18}, {64, 64, 21}} {
		for nodes := x.from; nodes <= x.to; nodes++ {
			g := made(t, nodes)
			if n := g.Limit(); n != x.limit {
				t.Errorf("the limit of %d: %d, not %d", nodes, n, x.limit)
			}
			has(t, g, 0)
			takes(t, g, 16)
		}
	}
	for _, nodes := range []int{math.MinInt, -64, -1, 0, 65, 66, 128, 1 << 31, 1<<32 + 1, math.MaxInt} {
		if g, e := gossip.New(nodes); g != nil || e != api.ErrArg {
			t.Errorf("new of %d: %v", nodes, e)
		}
	}
}

// P13.1: the limit stays, and to ask for it, or for how many words there are, tells nothing.
func TestAsked(t *testing.T) {
	g := made(t, 2)
	for n := 1; n <= 2; n++ {
		adds(t, g, alive(n, 0), true)
		for range 10 {
			has(t, g, n)
			if g.Limit() != 6 {
				t.Errorf("the limit %d", g.Limit())
			}
		}
	}
	for range 6 {
		has(t, g, 2)
		takes(t, g, 2, alive(1, 0), alive(2, 0))
	}
	has(t, g, 0)
	if g.Limit() != 6 {
		t.Errorf("the limit %d", g.Limit())
	}
}

// P13.2: what may not be, or is about none of the nodes, is refused, and changes nothing.
func TestAddRefuses(t *testing.T) {
	for _, nodes := range []int{1, 2, 5, 32, 63, 64} {
		g := made(t, nodes)
		adds(t, g, suspect(1, 5), true)
		for _, m := range []api.Member{
			{}, alive(0, 0), alive(-1, 9), alive(65, 9), alive(math.MinInt, 9), alive(math.MaxInt, 9), alive(1<<32+1, 9), alive(nodes+1, 9), left(nodes+1, most),
			{ID: 1, Inc: 9}, {ID: 1, Status: 5, Inc: 9}, {ID: 1, Status: -1, Inc: 9}, {ID: 1, Status: 1<<32 + 1, Inc: 9}, {ID: 1, Status: math.MaxInt, Inc: 9},
			alive(1, -1), left(1, math.MinInt), alive(1, most+1), alive(1, 1<<32), alive(1, math.MaxInt), dead(nodes, most+1), dead(nodes, -1),
		} {
			refuses(t, g, m)
			has(t, g, 1)
		}
		for range g.Limit() {
			takes(t, g, 16, suspect(1, 5))
		}
		takes(t, g, 16)
	}
}

// P13.2: of each node, the last one too, one word is there: the one over all that were put.
func TestAddEachNode(t *testing.T) {
	for nodes := 1; nodes <= 64; nodes++ {
		g := made(t, nodes)
		for id := nodes; id >= 1; id-- {
			adds(t, g, alive(id, 0), true)
			has(t, g, nodes-id+1)
		}
		for id := 1; id <= nodes; id++ {
			adds(t, g, left(id, 0), true)
			adds(t, g, alive(id, most), true)
			adds(t, g, left(id, most-1), false)
			adds(t, g, alive(id, most), false)
			has(t, g, nodes)
		}
		var all []api.Member
		for range (nodes + 15) / 16 {
			all = append(all, g.Take(16)...)
		}
		var want []api.Member
		for id := 1; id <= nodes; id++ {
			want = append(want, alive(id, most))
		}
		if !slices.Equal(all[:min(nodes, len(all))], want) {
			t.Errorf("of %d nodes: %v", nodes, all)
		}
	}
}

// P13.2: which words take the place of which: a greater Inc, or, of the same one, a later status.
func TestAddOver(t *testing.T) {
	rising := []api.Member{
		alive(3, 0), suspect(3, 0), dead(3, 0), left(3, 0), alive(3, 1), suspect(3, 1), dead(3, 1), left(3, 1), alive(3, 2),
		left(3, most-1), alive(3, most), suspect(3, most), dead(3, most), left(3, most),
	}
	for i, a := range rising {
		for j, b := range rising {
			g := made(t, 3)
			adds(t, g, a, true)
			takes(t, g, 1, a)
			adds(t, g, b, j > i)
			has(t, g, 1)
			takes(t, g, 1, rising[max(i, j)])
		}
	}
}

// P13.2: a word takes a place alone of its own node's, and is told never, so that it comes ahead of those that were told.
func TestAddIsToldNever(t *testing.T) {
	g := made(t, 3)
	for id := 1; id <= 3; id++ {
		adds(t, g, alive(id, 0), true)
	}
	takes(t, g, 3, alive(1, 0), alive(2, 0), alive(3, 0))
	takes(t, g, 1, alive(1, 0))
	adds(t, g, suspect(3, 0), true)
	adds(t, g, alive(2, 0), false)
	takes(t, g, 1, suspect(3, 0))
	takes(t, g, 2, alive(2, 0), suspect(3, 0))
	takes(t, g, 3, alive(1, 0), alive(2, 0), suspect(3, 0))
}

// P13.2: a word that was told as often as the limit is forgotten: it, and any lesser one, may be put again.
func TestAddAgain(t *testing.T) {
	g := made(t, 1)
	for _, m := range []api.Member{left(1, 9), left(1, 9), alive(1, 9), alive(1, 0)} {
		adds(t, g, m, true)
		for range 3 {
			takes(t, g, 1, m)
		}
		takes(t, g, 1)
		has(t, g, 0)
	}
}

// P13.3: how many words are told: n, as many as there are, 16 at most.
func TestTakeMany(t *testing.T) {
	for _, nodes := range []int{1, 2, 15, 16, 17, 40, 64} {
		for _, n := range []int{math.MinInt, -1, 0, 1, 2, 14, 15, 16, 17, 18, 64, 1 << 32, math.MaxInt} {
			g := made(t, nodes)
			for id := 1; id <= nodes; id++ {
				adds(t, g, alive(id, id), true)
			}
			l := g.Take(n)
			if len(l) != max(0, min(n, nodes, 16)) {
				t.Errorf("take %d of %d: %d words", n, nodes, len(l))
			}
			for i, m := range l {
				if m != alive(i+1, i+1) {
					t.Errorf("take %d of %d: %v", n, nodes, l)
				}
			}
			if n < 1 && l != nil {
				t.Errorf("take %d: a list", n)
			}
			has(t, g, nodes)
		}
	}
}

// P13.3: those told least often come first, of as often told ones the lesser nodes; none is told twice by one Take.
func TestTakeInOrder(t *testing.T) {
	g := made(t, 64)
	for _, id := range []int{64, 7, 30, 1, 63} {
		adds(t, g, alive(id, 64-id), true)
	}
	takes(t, g, 2, alive(1, 63), alive(7, 57))
	takes(t, g, 2, alive(30, 34), alive(63, 1))
	takes(t, g, 2, alive(64, 0), alive(1, 63))
	takes(t, g, 16, alive(7, 57), alive(30, 34), alive(63, 1), alive(64, 0), alive(1, 63))
	adds(t, g, alive(40, 5), true)
	takes(t, g, 1, alive(40, 5))
	takes(t, g, 1, alive(40, 5))
	takes(t, g, 3, alive(7, 57), alive(30, 34), alive(40, 5))
}

// P13.3: a word goes out by itself, as soon as it was told as often as the limit.
func TestTakeUpToTheLimit(t *testing.T) {
	g := made(t, 2)
	adds(t, g, alive(1, 0), true)
	for range 5 {
		takes(t, g, 1, alive(1, 0))
		has(t, g, 1)
	}
	adds(t, g, alive(2, 0), true)
	takes(t, g, 16, alive(2, 0), alive(1, 0))
	has(t, g, 1)
	for range 5 {
		takes(t, g, 16, alive(2, 0))
	}
	has(t, g, 0)
	takes(t, g, 16)
}

// Rule 5: what New did not answer is none: nil, what nobody made, and a copy of the fields.
func TestNone(t *testing.T) {
	g := made(t, 3)
	adds(t, g, alive(1, 0), true)
	fields := *g
	for i, none := range []*gossip.Gossip{nil, {}, new(gossip.Gossip), &fields} {
		for _, m := range []api.Member{alive(1, 9), alive(2, 0), alive(65, 0), {}} {
			if is, e := none.Add(m); is || e != api.ErrNil {
				t.Errorf("%d: add %v: %v, %v", i, m, is, e)
			}
		}
		for _, n := range []int{math.MinInt, 0, 1, 16, math.MaxInt} {
			if l := none.Take(n); l != nil {
				t.Errorf("%d: take %d: %v", i, n, l)
			}
		}
		if none.Len() != 0 || none.Limit() != 0 {
			t.Errorf("%d: %d words, the limit %d", i, none.Len(), none.Limit())
		}
	}
	takes(t, g, 16, alive(1, 0))
	has(t, g, 1)
}

// Rule 4: an answer is new memory, its spare room too: what is done to it changes nothing, and it stays.
func TestMemory(t *testing.T) {
	g := made(t, 64)
	for id := 1; id <= 64; id++ {
		adds(t, g, alive(id, 7), true)
	}
	var all [][]api.Member
	for range 3 {
		for first := 1; first <= 64; first += 16 {
			l := g.Take(16)
			for i, m := range l {
				if m != alive(first+i, 7) {
					t.Fatalf("from %d on: %v", first, l)
				}
			}
			all = append(all, l)
			wipe(l)
		}
	}
	for id := 1; id <= 64; id++ {
		adds(t, g, dead(id, 8), true)
	}
	for _, l := range all {
		if slices.ContainsFunc(l, func(m api.Member) bool { return m != wiped }) {
			t.Errorf("an answer is changed: %v", l)
		}
	}
}

var wiped = left(9, 99)

// wipe turns all words of a list, those of its spare room too.
func wipe(l []api.Member) {
	l = l[:cap(l)]
	for i := range l {
		l[i] = wiped
	}
}

// P1: buffers go on by themselves, and the same calls tell the same.
func TestApart(t *testing.T) {
	a, b, c := made(t, 4), made(t, 4), made(t, 4)
	for _, g := range []*gossip.Gossip{a, b} {
		adds(t, g, alive(4, 0), true)
		adds(t, g, alive(1, 0), true)
	}
	has(t, c, 0)
	takes(t, a, 1, alive(1, 0))
	takes(t, b, 1, alive(1, 0))
	adds(t, a, dead(4, 0), true)
	takes(t, a, 2, dead(4, 0), alive(1, 0))
	takes(t, b, 2, alive(4, 0), alive(1, 0))
	takes(t, c, 2)
}
