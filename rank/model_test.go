package rank_test

import (
	"crypto/sha256"
	"encoding/binary"
	"math/rand"
	"slices"
	"testing"

	"chartulary/api"
	"chartulary/rank"
)

// plainWeight tells a node's weight for an id as the document's words say.
func plainWeight(id api.ID, node int) uint64 {
	var b [33]byte
	copy(b[:], id[:])
	b[32] = byte(node)
	sum := sha256.Sum256(b[:])
	return binary.BigEndian.Uint64(sum[:8])
}

// plainOrder tells an order: again and again the heaviest node that is left, of the same weight the least.
func plainOrder(id api.ID, nodes int) []int {
	left := map[int]uint64{}
	for node := 1; node <= nodes; node++ {
		left[node] = plainWeight(id, node)
	}
	var out []int
	for len(left) > 0 {
		best := 0
		for node := 1; node <= nodes; node++ {
			w, is := left[node]
			if is && (best == 0 || w > left[best]) {
				best = node
			}
		}
		out = append(out, best)
		delete(left, best)
	}
	return out
}

// plainPlace tells the spots of an order as the document's words say.
func plainPlace(order []int, copies int, live []int) []api.Spot {
	var out []api.Spot
	taken := map[int]bool{}
	for _, home := range order[:copies] {
		if slices.Contains(live, home) {
			out = append(out, api.Spot{Node: home, Home: home})
			continue
		}
		at := slices.IndexFunc(order[copies:], func(node int) bool {
			return slices.Contains(live, node) && !taken[node]
		})
		if at >= 0 {
			node := order[copies+at]
			taken[node] = true
			out = append(out, api.Spot{Node: node, Home: home})
		}
	}
	return out
}

// idsOf tells ids: of noughts, of one bit, of all bits, and some by chance.
func idsOf(r *rand.Rand, n int) []api.ID {
	full := api.ID{}
	for i := range full {
		full[i] = 255
	}
	out := []api.ID{{}, full, {0: 1}, {0: 128}, {31: 1}, {31: 64}, {16: 8}}
	for range n {
		var id api.ID
		r.Read(id[:])
		out = append(out, id)
	}
	return out
}

// upTo tells the nodes from 1 to n, rising.
func upTo(n int) []int {
	var out []int
	for node := 1; node <= n; node++ {
		out = append(out, node)
	}
	return out
}

// subset tells the nodes whose bits a number has.
func subset(bits int) []int {
	var out []int
	for node := 1; bits>>(node-1) > 0; node++ {
		if bits>>(node-1)&1 == 1 {
			out = append(out, node)
		}
	}
	return out
}

// some tells nodes by chance, few or nearly all of them, in any order.
func some(r *rand.Rand, nodes int) []int {
	most := r.Intn(11)
	return slices.DeleteFunc(r.Perm(nodes+1), func(node int) bool { return node == 0 || r.Intn(10) >= most })
}

// order and place tell what is answered where nothing may be wrong.
func order(t *testing.T, id api.ID, nodes int) []int {
	t.Helper()
	l, e := rank.Order(id, nodes)
	if e != api.OK {
		t.Fatalf("order of %x, %d: %v", id, nodes, e)
	}
	return l
}

func place(t *testing.T, id api.ID, nodes, copies int, live []int) []api.Spot {
	t.Helper()
	l, e := rank.Place(id, nodes, copies, live)
	if e != api.OK {
		t.Fatalf("place of %x, %d, %d, %v: %v", id, nodes, copies, live, e)
	}
	return l
}

// P17.1: the order of each number of nodes.
func TestOrderAsSaid(t *testing.T) {
	r := rand.New(rand.NewSource(171))
	for _, id := range idsOf(r, 60) {
		for nodes := 1; nodes <= 64; nodes++ {
			if got, want := order(t, id, nodes), plainOrder(id, nodes); !slices.Equal(got, want) {
				t.Fatalf("%x, %d: %v, not %v", id, nodes, got, want)
			}
		}
	}
}

// P17.2: a home is one of the first so many, at each number of nodes and copies; nobody else is one, of what number it may be.
func TestHomeAsSaid(t *testing.T) {
	r := rand.New(rand.NewSource(172))
	for i, id := range idsOf(r, 10) {
		for nodes := 1 + i%5; nodes <= 64; nodes += 1 + r.Intn(9) {
			want := plainOrder(id, nodes)
			for _, copies := range []int{1, 1 + r.Intn(nodes), nodes} {
				for node := -2; node <= 66; node++ {
					if got := rank.Home(id, nodes, copies, node); got != slices.Contains(want[:copies], node) {
						t.Fatalf("%x, %d, %d, %d: %v", id, nodes, copies, node, got)
					}
				}
			}
		}
	}
}

// P17.3: who is live being whoever of few nodes, of each number of copies.
func TestPlaceOfAllFew(t *testing.T) {
	r := rand.New(rand.NewSource(173))
	for _, id := range idsOf(r, 5) {
		for nodes := 1; nodes <= 6; nodes++ {
			order := plainOrder(id, nodes)
			for copies := 1; copies <= nodes; copies++ {
				for bits := range 1 << nodes {
					live := subset(bits)
					if got, want := place(t, id, nodes, copies, live), plainPlace(order, copies, live); !slices.Equal(got, want) {
						t.Fatalf("%x, %d, %d, %v: %v, not %v", id, nodes, copies, live, got, want)
					}
				}
			}
		}
	}
}

// P17.3: the same by chance, of any number of nodes, with numbers that are none of these nodes', and with ones that stand there twice.
func TestPlaceByChance(t *testing.T) {
	r := rand.New(rand.NewSource(174))
	ids := idsOf(r, 40)
	for range 6000 {
		id, nodes := ids[r.Intn(len(ids))], 1+r.Intn(64)
		copies := 1 + r.Intn(nodes)
		live := some(r, nodes)
		order := plainOrder(id, nodes)
		want := plainPlace(order, copies, live)
		if got := place(t, id, nodes, copies, live); !slices.Equal(got, want) {
			t.Fatalf("%x, %d, %d, %v: %v, not %v", id, nodes, copies, live, got, want)
		}
		for range r.Intn(20) {
			x := nodes + 1 + r.Intn(300)
			if r.Intn(2) == 0 {
				x = -r.Intn(300)
			}
			if len(live) > 0 && r.Intn(2) == 0 {
				x = live[r.Intn(len(live))]
			}
			live = append(live, x)
		}
		r.Shuffle(len(live), func(i, j int) { live[i], live[j] = live[j], live[i] })
		if got := place(t, id, nodes, copies, live); !slices.Equal(got, want) {
			t.Fatalf("%x, %d, %d, %v: %v, not %v", id, nodes, copies, live, got, want)
		}
	}
}

// P17.4: an order has each node once; with one node more it is the same, but that the new one stands somewhere in it.
func TestOneNodeMore(t *testing.T) {
	r := rand.New(rand.NewSource(175))
	for _, id := range idsOf(r, 60) {
		var was []int
		for nodes := 1; nodes <= 64; nodes++ {
			is := order(t, id, nodes)
			if got := slices.Sorted(slices.Values(is)); !slices.Equal(got, upTo(nodes)) {
				t.Fatalf("%x, %d: %v", id, nodes, is)
			}
			rest := slices.DeleteFunc(slices.Clone(is), func(node int) bool { return node == nodes })
			if !slices.Equal(rest, was) {
				t.Fatalf("%x, %d: %v behind %v", id, nodes, is, was)
			}
			was = is
		}
	}
}

// P17.4: the new one takes a home of one node alone, if any.
func TestHomesOfOneNodeMore(t *testing.T) {
	r := rand.New(rand.NewSource(176))
	for i, id := range idsOf(r, 30) {
		for nodes := 1 + i%4; nodes < 64; nodes += 1 + r.Intn(7) {
			copies, gone, come := 1+r.Intn(nodes), 0, 0
			for node := 1; node <= nodes+1; node++ {
				was, is := rank.Home(id, nodes, copies, node), rank.Home(id, nodes+1, copies, node)
				if was && !is {
					gone++
				}
				if is && !was {
					come++
				}
				if is && !was && node != nodes+1 {
					t.Fatalf("%x, %d, %d: %d is a home", id, nodes, copies, node)
				}
			}
			if gone != come || come > 1 {
				t.Fatalf("%x, %d, %d: %d came, %d went", id, nodes, copies, come, gone)
			}
		}
	}
}

// P17.5: all spots are live, of unlike nodes and unlike homes, and there are as many as there can be.
func TestSpotsAreUnlike(t *testing.T) {
	r := rand.New(rand.NewSource(177))
	ids := idsOf(r, 40)
	for range 6000 {
		id, nodes := ids[r.Intn(len(ids))], 1+r.Intn(64)
		copies, live := 1+r.Intn(nodes), some(r, nodes)
		l, homes := place(t, id, nodes, copies, live), order(t, id, nodes)[:copies]
		nodesOf, homesOf := map[int]int{}, map[int]int{}
		for _, x := range l {
			nodesOf[x.Node]++
			homesOf[x.Home]++
			if !slices.Contains(live, x.Node) || !slices.Contains(homes, x.Home) {
				t.Fatalf("%x, %d, %d, %v: %v", id, nodes, copies, live, x)
			}
			if x.Node != x.Home && (slices.Contains(live, x.Home) || slices.Contains(homes, x.Node)) {
				t.Fatalf("%x, %d, %d, %v: %v", id, nodes, copies, live, x)
			}
		}
		if n := min(copies, len(live)); len(l) != n || len(nodesOf) != n || len(homesOf) != n {
			t.Fatalf("%x, %d, %d, %v: %v", id, nodes, copies, live, l)
		}
	}
}

// P17.5: with all nodes live the spots are the homes, each for itself, in order.
func TestSpotsOfAllLive(t *testing.T) {
	r := rand.New(rand.NewSource(178))
	for _, id := range idsOf(r, 10) {
		for nodes := 1; nodes <= 64; nodes++ {
			homes := order(t, id, nodes)
			for copies := 1; copies <= nodes; copies++ {
				var want []api.Spot
				for _, home := range homes[:copies] {
					want = append(want, api.Spot{Node: home, Home: home})
				}
				if got := place(t, id, nodes, copies, upTo(nodes)); !slices.Equal(got, want) {
					t.Fatalf("%x, %d, %d: %v, not %v", id, nodes, copies, got, want)
				}
			}
		}
	}
}

// byHome tells who stands for each home: 0, if nobody does.
func byHome(l []api.Spot) [65]int {
	var out [65]int
	for _, x := range l {
		out[x.Home] = x.Node
	}
	return out
}

// P17.5: a node that is not live any more changes the spot of its own home, and of those behind it that had a stand-in, alone.
func TestOneNodeLess(t *testing.T) {
	r := rand.New(rand.NewSource(179))
	ids := idsOf(r, 40)
	for range 1500 {
		id, nodes := ids[r.Intn(len(ids))], 1+r.Intn(64)
		copies, live := 1+r.Intn(nodes), some(r, nodes)
		was, homes := byHome(place(t, id, nodes, copies, live)), order(t, id, nodes)[:copies]
		for i, gone := range live {
			is := byHome(place(t, id, nodes, copies, slices.Delete(slices.Clone(live), i, i+1)))
			may := false
			for _, home := range homes {
				may = may || was[home] == gone
				if was[home] != is[home] && (!may || was[home] == home && home != gone) {
					t.Fatalf("%x, %d, %d, %v without %d: %d has %d, not %d", id, nodes, copies, live, gone, home, is[home], was[home])
				}
			}
		}
	}
}
