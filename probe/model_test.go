package probe_test

import (
	"math"
	"math/rand"
	"slices"
	"testing"

	"chartulary/api"
	"chartulary/lot"
	"chartulary/probe"
)

// plain is a round as the document's words say: who was told, and who was not, each in order.
type plain struct{ told, left []int }

// plainLots tells lots without numbers in the place of nil.
func plainLots(l *lot.Lots) *lot.Lots {
	if l == nil {
		l, _ = lot.New(nil)
	}
	return l
}

// plainOrder tells nodes in the order in which lots say that their numbers come.
func plainOrder(nodes []int, l *lot.Lots) []int {
	var out []int
	for _, number := range plainLots(l).Shuffle(len(nodes)) {
		out = append(out, nodes[number])
	}
	return out
}

func plainMay(node int) bool {
	return node >= 1 && node <= 64
}

func plainNew(nodes []int, l *lot.Lots) (*plain, api.Errno) {
	seen := map[int]bool{}
	for _, node := range nodes {
		if !plainMay(node) || seen[node] {
			return nil, api.ErrArg
		}
		seen[node] = true
	}
	return &plain{left: plainOrder(nodes, l)}, api.OK
}

func (p *plain) order() []int {
	return slices.Concat(p.told, p.left)
}

func (p *plain) next(l *lot.Lots) int {
	if len(p.told) == 0 && len(p.left) == 0 {
		return 0
	}
	if len(p.left) == 0 {
		p.told, p.left = nil, plainOrder(p.told, l)
	}
	node := p.left[0]
	p.told, p.left = slices.Concat(p.told, []int{node}), p.left[1:]
	return node
}

func (p *plain) add(node int, l *lot.Lots) api.Errno {
	if !plainMay(node) {
		return api.ErrArg
	}
	if slices.Contains(p.order(), node) {
		return api.ErrExists
	}
	at := plainLots(l).Pick(len(p.left) + 1)
	p.left = slices.Concat(p.left[:at], []int{node}, p.left[at:])
	return api.OK
}

func (p *plain) remove(node int) api.Errno {
	other := func(l []int) []int {
		return slices.DeleteFunc(slices.Clone(l), func(k int) bool { return k == node })
	}
	before := len(p.order())
	p.told, p.left = other(p.told), other(p.left)
	if len(p.order()) == before {
		return api.ErrMissing
	}
	return api.OK
}

// act is a call: a Next, an Add, or a Remove.
type act struct{ kind, node int }

const (
	next = iota
	add
	remove
)

// both is a round, and its lots, beside one that is as the document's words say, and lots of the same numbers; lots may be nil.
type both struct {
	real        *probe.Round
	plain       *plain
	mine, other *lot.Lots
}

// pair tells a new round of nodes, and one by the document's words, by lots of l; by nil, where none is true.
func pair(t *testing.T, nodes, l []int, none bool) *both {
	t.Helper()
	b := &both{}
	if !none {
		b.mine, b.other = lots(t, l...), lots(t, l...)
	}
	b.real = made(t, b.mine, nodes...)
	b.plain, _ = plainNew(nodes, b.other)
	b.holds(t)
	return b
}

// holds asks that both stand alike, and that as many lots were drawn.
func (b *both) holds(t *testing.T) {
	t.Helper()
	if l, want := b.real.Order(), b.plain.order(); !slices.Equal(l, want) || b.real.Told() != len(b.plain.told) {
		t.Fatalf("%v, %d told, not %v, %d told", l, b.real.Told(), want, len(b.plain.told))
	}
	if b.mine.Used() != b.other.Used() {
		t.Fatalf("%d lots drawn, not %d", b.mine.Used(), b.other.Used())
	}
}

// does holds an act at the round against the document's words.
func (b *both) does(t *testing.T, a act) {
	t.Helper()
	var is, want int
	switch a.kind {
	case next:
		is, want = b.real.Next(b.mine), b.plain.next(b.other)
	case add:
		is, want = int(b.real.Add(a.node, b.mine)), int(b.plain.add(a.node, b.other))
	case remove:
		is, want = int(b.real.Remove(a.node)), int(b.plain.remove(a.node))
	}
	if is != want {
		t.Fatalf("%+v: %d, not %d", a, is, want)
	}
	b.holds(t)
}

// rows does all rows of up to n of such acts, each at a new round.
func rows(t *testing.T, start func() *both, n int, acts []act, so ...act) {
	t.Helper()
	b := start()
	for _, a := range so {
		b.does(t, a)
	}
	if len(so) == n {
		return
	}
	for _, a := range acts {
		rows(t, start, n, acts, append(so[:len(so):len(so)], a)...)
	}
}

// P14.1 to P14.3: all rows of five acts at few nodes, by lots of all kinds and by none, and of six at two.
func TestAllRows(t *testing.T) {
	acts := []act{{next, 0}, {add, 1}, {add, 2}, {add, 9}, {remove, 1}, {remove, 2}, {remove, 3}}
	for _, nodes := range [][]int{nil, {1}, {2, 1}, {3, 1, 2}} {
		rows(t, func() *both { return pair(t, nodes, nil, true) }, 5, acts)
		for _, l := range [][]int{{1, 0, 2, 1, 3, 0, 2, 2, 1, 1, 3}, {2, 2, 3, 1, 0, 1, 1, 2, 0, 3}} {
			rows(t, func() *both { return pair(t, nodes, l, false) }, 5, acts)
		}
	}
	rows(t, func() *both { return pair(t, []int{2, 3}, []int{1, 1, 0, 2, 1, 3, 2}, false) }, 6, acts)
}

// some tells so many of the nodes from 1 to 64, in any order.
func some(r *rand.Rand, n int) []int {
	var out []int
	for _, at := range r.Perm(64)[:n] {
		out = append(out, at+1)
	}
	return out
}

// P14.1 to P14.3: long rows by chance, at rounds of all lengths, with lots enough and with fewer, or with none.
func TestLongRows(t *testing.T) {
	r := rand.New(rand.NewSource(143))
	for n := range 65 {
		for range 15 {
			b := pair(t, some(r, n), numbers(r.Intn(1000), r.Int63()), r.Intn(5) == 0)
			asks, most := 1+r.Intn(9), 2+r.Intn(63)
			for range 300 {
				switch k := r.Intn(10); {
				case k < asks:
					b.does(t, act{next, 0})
				case r.Intn(2) == 0:
					b.does(t, act{add, 1 + r.Intn(most)})
				default:
					b.does(t, act{remove, 1 + r.Intn(64)})
				}
			}
		}
	}
}

// P14.2, P14.3: numbers of all kinds, many of which are no nodes.
func TestWildRows(t *testing.T) {
	r := rand.New(rand.NewSource(144))
	nodes := []int{math.MinInt, math.MinInt32, -64, -1, 0, 1, 2, 3, 31, 32, 33, 62, 63, 64, 65, 66, 128, 1 << 31, 1<<32 + 1, math.MaxInt}
	for range 2000 {
		b := pair(t, some(r, r.Intn(65)), numbers(r.Intn(100), r.Int63()), r.Intn(5) == 0)
		for range 60 {
			b.does(t, act{r.Intn(3), nodes[r.Intn(len(nodes))]})
		}
	}
}

// P14.1: lists of all kinds, of which some are rounds.
func TestWildLists(t *testing.T) {
	r := rand.New(rand.NewSource(145))
	rounds := 0
	for range 30000 {
		nodes := some(r, r.Intn(65))
		for range r.Intn(3) {
			if len(nodes) > 0 {
				nodes[r.Intn(len(nodes))] = r.Intn(70) - 3
			}
		}
		mine, other := lots(t, numbers(70, 9)...), lots(t, numbers(70, 9)...)
		is, e := probe.New(nodes, mine)
		want, we := plainNew(nodes, other)
		if e != we || mine.Used() != other.Used() || (is == nil) != (want == nil) {
			t.Fatalf("new of %v: %v, not %v", nodes, e, we)
		}
		if is != nil {
			rounds++
			stands(t, is, 0, want.order()...)
		}
	}
	if rounds < 1000 || rounds > 29000 {
		t.Errorf("%d lists of 30000 are rounds", rounds)
	}
}

// P14.1, P14.2: by what can be picked each order comes just once, at first and anew.
func TestEachOrderComesOnce(t *testing.T) {
	count := 1
	for n := 1; n <= 5; n++ {
		count *= n
		first, anew := map[[5]int]int{}, map[[5]int]int{}
		for i := range count {
			var l []int
			for of := n; of > 1; of-- {
				l = append(l, i%of)
				i /= of
			}
			r := made(t, lots(t, l...), upTo(n)...)
			first[[5]int(append(r.Order(), 0, 0, 0, 0)[:5])]++
			r = made(t, nil, upTo(n)...)
			for range n {
				r.Next(nil)
			}
			r.Next(lots(t, l...))
			anew[[5]int(append(r.Order(), 0, 0, 0, 0)[:5])]++
		}
		if len(first) != count || len(anew) != count {
			t.Errorf("%d and %d orders of %d nodes, not %d", len(first), len(anew), n, count)
		}
	}
}

// P14.4: in as many Nexts as there are nodes, from an order's beginning on, each is told once, whoever came and went ahead of it.
func TestEachIsToldOnce(t *testing.T) {
	r := rand.New(rand.NewSource(146))
	for n := range 65 {
		for range 10 {
			l := lots(t, numbers(r.Intn(1000), r.Int63())...)
			round := made(t, l, some(r, n)...)
			for range 5 {
				for range r.Intn(100) {
					round.Next(l)
					round.Add(1+r.Intn(64), l)
					round.Remove(1 + r.Intn(64))
				}
				for round.Told() != 0 && round.Told() != len(round.Order()) {
					round.Next(l)
				}
				want := round.Order()
				var seen []int
				for range want {
					seen = append(seen, round.Next(l))
				}
				slices.Sort(seen)
				slices.Sort(want)
				if !slices.Equal(seen, want) {
					t.Fatalf("of %v are told %v", want, seen)
				}
			}
		}
	}
}

// P14.4: as long as nobody comes and goes, each is told again within two rounds less one; without lots that is how long the first one of an order waits.
func TestToldAgain(t *testing.T) {
	r := rand.New(rand.NewSource(147))
	for n := 1; n <= 64; n++ {
		for _, many := range []int{0, 30, 1000} {
			l := lots(t, numbers(many, r.Int63())...)
			round := made(t, l, some(r, n)...)
			for range r.Intn(n) {
				round.Next(l)
			}
			last, longest := map[int]int{}, 0
			for i := range 12 * n {
				node := round.Next(l)
				if was, is := last[node]; is {
					longest = max(longest, i-was)
				}
				last[node] = i
			}
			if longest > 2*n-1 || many == 0 && longest != 2*n-1 {
				t.Errorf("of %d nodes one is told again behind %d", n, longest)
			}
			for node, was := range last {
				if 12*n-was > 2*n-1 {
					t.Errorf("of %d nodes %d waits since %d of %d", n, node, was, 12*n)
				}
			}
		}
	}
}

// P14.1 to P14.3: lots that are none take the place of lots without numbers in each call; they stay none.
func TestLotsThatAreNone(t *testing.T) {
	r := rand.New(rand.NewSource(148))
	for n := range 65 {
		nodes := some(r, n)
		for _, none := range nones(t) {
			a, b := made(t, none, nodes...), made(t, lots(t), nodes...)
			for range 200 {
				node := 1 + r.Intn(64)
				switch r.Intn(6) {
				case 0:
					adds(t, a, node, none, b.Add(node, lots(t)))
				case 1:
					removes(t, a, node, b.Remove(node))
				default:
					tells(t, a, none, b.Next(lots(t)))
				}
			}
			stands(t, a, b.Told(), b.Order()...)
			drawn(t, "of none", none, 0)
		}
	}
}
