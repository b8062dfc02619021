package gossip_test

import (
	"math"
	"math/rand"
	"slices"
	"strconv"
	"testing"

	"chartulary/api"
	"chartulary/gossip"
)

// plain is a buffer as the document's words say: of each node a word, and how often that was told; a word of the node 0 is none.
type plain struct {
	nodes int
	words [65]api.Member
	told  [65]int
}

// plainLimit goes by the binary digits, written out.
func plainLimit(nodes int) int {
	return 3 * len(strconv.FormatInt(int64(nodes), 2))
}

func plainMay(m api.Member) bool {
	return 1 <= m.ID && m.ID <= 64 && 1 <= m.Status && m.Status <= 4 && 0 <= m.Inc && m.Inc <= most
}

// plainOver tells whether a is over b, both about one node.
func plainOver(a, b api.Member) bool {
	if a.Inc == b.Inc {
		return a.Status > b.Status
	}
	return a.Inc > b.Inc
}

func (p *plain) add(m api.Member) (bool, api.Errno) {
	if !plainMay(m) || m.ID > p.nodes {
		return false, api.ErrArg
	}
	if p.words[m.ID].ID != 0 && !plainOver(m, p.words[m.ID]) {
		return false, api.OK
	}
	p.words[m.ID], p.told[m.ID] = m, 0
	return true, api.OK
}

// take looks through all counts, the least one first, and for each through all nodes, before it tells anything.
func (p *plain) take(n int) []api.Member {
	var out []api.Member
	for told := range plainLimit(p.nodes) {
		for node := 1; node <= p.nodes; node++ {
			if p.words[node].ID != 0 && p.told[node] == told && len(out) < n && len(out) < 16 {
				out = append(out, p.words[node])
			}
		}
	}
	for _, m := range out {
		p.told[m.ID]++
		if p.told[m.ID] == plainLimit(p.nodes) {
			p.words[m.ID], p.told[m.ID] = api.Member{}, 0
		}
	}
	return out
}

func (p *plain) len() int {
	n := 0
	for _, m := range p.words {
		if m.ID != 0 {
			n++
		}
	}
	return n
}

// left tells how often all words of the buffer together are to be told still.
func (p *plain) left() int {
	n := 0
	for node, m := range p.words {
		if m.ID != 0 {
			n += plainLimit(p.nodes) - p.told[node]
		}
	}
	return n
}

// act is a word that is added, or, if there is none, a Take of so many.
type act struct {
	word *api.Member
	n    int
}

func add(m api.Member) act { return act{word: &m} }
func take(n int) act       { return act{n: n} }

// both is a buffer beside one that is as the document's words say.
type both struct {
	real  *gossip.Gossip
	plain plain
}

// pair tells a new buffer, and one by the document's words.
func pair(t *testing.T, nodes int) *both {
	t.Helper()
	return &both{made(t, nodes), plain{nodes: nodes}}
}

// does holds an act at the buffer against the document's words.
func (b *both) does(t *testing.T, a act) {
	t.Helper()
	if a.word != nil {
		is, e := b.real.Add(*a.word)
		if want, we := b.plain.add(*a.word); is != want || e != we {
			t.Fatalf("add %v: %v, %v, not %v, %v", *a.word, is, e, want, we)
		}
	} else {
		got, want := b.real.Take(a.n), b.plain.take(a.n)
		if !slices.Equal(got, want) {
			t.Fatalf("take %d: %v, not %v", a.n, got, want)
		}
	}
	if n, want := b.real.Len(), b.plain.len(); n != want || b.real.Limit() != plainLimit(b.plain.nodes) {
		t.Fatalf("%d words, not %d; the limit %d", n, want, b.real.Limit())
	}
}

// drains tells all that is left, one by one.
func (b *both) drains(t *testing.T) {
	t.Helper()
	for range b.plain.left() + 2 {
		b.does(t, take(1))
	}
	if n := b.real.Len(); n != 0 {
		t.Fatalf("%d words are left", n)
	}
}

// rows does all rows of n of such acts, each at a new buffer.
func rows(t *testing.T, nodes, n int, acts []act, so ...act) {
	t.Helper()
	b := pair(t, nodes)
	for _, a := range so {
		b.does(t, a)
	}
	b.drains(t)
	if len(so) == n {
		return
	}
	for _, a := range acts {
		rows(t, nodes, n, acts, append(so[:len(so):len(so)], a)...)
	}
}

// P13.2, P13.3: all rows of six acts, at one node, whose limit is three.
func TestAllRowsOfOneNode(t *testing.T) {
	rows(t, 1, 6, []act{add(alive(1, 0)), add(suspect(1, 0)), add(alive(1, 1)), add(alive(2, 0)), take(1), take(2), take(0)})
}

// P13.2, P13.3: all rows of five acts, at three nodes.
func TestAllRowsOfThreeNodes(t *testing.T) {
	rows(t, 3, 5, []act{add(alive(1, 0)), add(dead(1, 0)), add(suspect(2, 4)), add(alive(2, 5)), add(left(3, 1)), add(alive(4, 1)), take(1), take(2), take(16)})
}

// P13.2, P13.3: long rows by chance, at each number of nodes, so that words meet, and are told up to the limit.
func TestLongRows(t *testing.T) {
	r := rand.New(rand.NewSource(133))
	for nodes := 1; nodes <= 64; nodes++ {
		for range 20 {
			b := pair(t, nodes)
			talk, much := 1+r.Intn(9), 1+r.Intn(20)
			for range 300 {
				if r.Intn(10) < talk {
					b.does(t, take(r.Intn(much+1)-1))
				} else {
					b.does(t, add(api.Member{ID: 1 + r.Intn(nodes+1), Status: 1 + r.Intn(4), Inc: r.Intn(4) * r.Intn(4)}))
				}
			}
			b.drains(t)
		}
	}
}

// P13.2, P13.3: words of all kinds, many of which may not be, and Takes of any number.
func TestWildRows(t *testing.T) {
	r := rand.New(rand.NewSource(132))
	ids := []int{math.MinInt, -1, 0, 1, 2, 3, 31, 32, 33, 63, 64, 65, 1<<32 + 1, math.MaxInt}
	statuses := []int{math.MinInt, -1, 0, 1, 2, 3, 4, 5, 1<<32 + 1, math.MaxInt}
	incs := []int{math.MinInt, -1, 0, 1, 2, most - 1, most, most + 1, 1 << 32, math.MaxInt}
	takes := []int{math.MinInt, -1, 0, 1, 2, 15, 16, 17, 64, 1 << 32, math.MaxInt}
	for range 2000 {
		b := pair(t, 1+r.Intn(64))
		for range 100 {
			b.does(t, add(api.Member{ID: ids[r.Intn(len(ids))], Status: statuses[r.Intn(len(statuses))], Inc: incs[r.Intn(len(incs))]}))
			if r.Intn(5) == 0 {
				b.does(t, take(takes[r.Intn(len(takes))]))
			}
		}
		b.drains(t)
	}
}

// P13.4: by Takes of one, as many as there are tellings left, each word is told as often as was left of its limit, no more and no less, and none is there then.
func TestToldAsOftenAsTheLimit(t *testing.T) {
	r := rand.New(rand.NewSource(134))
	for nodes := 1; nodes <= 64; nodes++ {
		g := made(t, nodes)
		told := map[api.Member]int{}
		for id := 1; id <= nodes; id++ {
			adds(t, g, api.Member{ID: id, Status: 1 + r.Intn(4), Inc: r.Intn(9)}, true)
			if r.Intn(2) == 0 {
				for _, m := range g.Take(r.Intn(20)) {
					told[m]++
				}
			}
		}
		left := nodes * g.Limit()
		for _, n := range told {
			left -= n
		}
		for range left {
			l := g.Take(1)
			if len(l) != 1 {
				t.Fatalf("of %d nodes: %v, though there are words left", nodes, l)
			}
			told[l[0]]++
		}
		if l := g.Take(1); len(l) != 0 || g.Len() != 0 || len(told) != nodes {
			t.Errorf("of %d nodes: %v, and %d words, are left; %d were told", nodes, l, g.Len(), len(told))
		}
		for m, n := range told {
			if n != plainLimit(nodes) {
				t.Errorf("of %d nodes: %v was told %d times", nodes, m, n)
			}
		}
	}
}

// P13.4: a word that is over the one that is there is told as often as the limit, however often the other one was; that one never again.
func TestReplacedIsToldAnew(t *testing.T) {
	for nodes := 1; nodes <= 64; nodes++ {
		for before := range plainLimit(nodes) {
			g := made(t, nodes)
			adds(t, g, alive(nodes, 3), true)
			takes(t, g, 0)
			for range before {
				takes(t, g, 1, alive(nodes, 3))
			}
			adds(t, g, alive(nodes, 3), false)
			adds(t, g, left(nodes, 2), false)
			adds(t, g, suspect(nodes, 3), true)
			for range plainLimit(nodes) {
				takes(t, g, 16, suspect(nodes, 3))
			}
			takes(t, g, 16)
		}
	}
}

// P13.4: what is told of a node never falls back while a word about it is there, and no word is told more often than the limit for each time that it was put.
func TestNothingFallsBack(t *testing.T) {
	r := rand.New(rand.NewSource(135))
	for range 300 {
		nodes := 1 + r.Intn(64)
		b := pair(t, nodes)
		held := map[int]api.Member{}
		put, told := map[api.Member]int{}, map[api.Member]int{}
		for range 400 {
			m := api.Member{ID: 1 + r.Intn(nodes), Status: 1 + r.Intn(4), Inc: r.Intn(6)}
			old, is := held[m.ID]
			if ok, _ := b.real.Add(m); ok != (!is || plainOver(m, old)) {
				t.Fatalf("%v, where %v is: %v", m, old, ok)
			} else if ok {
				held[m.ID] = m
				put[m]++
			}
			b.plain.add(m)
			for _, m := range b.real.Take(r.Intn(4)) {
				if held[m.ID] != m {
					t.Fatalf("%v is told, where %v was put", m, held[m.ID])
				}
				told[m]++
				b.plain.told[m.ID]++
				if b.plain.told[m.ID] == b.real.Limit() {
					delete(held, m.ID)
					b.plain.words[m.ID], b.plain.told[m.ID] = api.Member{}, 0
				}
			}
		}
		for m, n := range told {
			if n > put[m]*plainLimit(nodes) {
				t.Errorf("%v was told %d times, put %d times", m, n, put[m])
			}
		}
		if b.real.Len() != len(held) {
			t.Errorf("%d words, not %d", b.real.Len(), len(held))
		}
	}
}
