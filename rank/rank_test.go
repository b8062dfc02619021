package rank_test

import (
	"math"
	"slices"
	"sync"
	"testing"

	"chartulary/api"
	"chartulary/digest"
	"chartulary/rank"
)

// wrongCounts tells numbers of nodes that can't be.
func wrongCounts() []int {
	return []int{0, -1, -64, 65, 66, 128, 256, 257, 1 << 31, 1 << 32, 1<<32 + 1, 1<<63 - 1, math.MinInt}
}

// ones tells an id of just such bytes.
func ones(x byte) api.ID {
	var id api.ID
	for i := range id {
		id[i] = x
	}
	return id
}

// spots tells spots of nodes and homes, one behind the other.
func spots(l ...int) []api.Spot {
	var out []api.Spot
	for pair := range slices.Chunk(l, 2) {
		out = append(out, api.Spot{Node: pair[0], Home: pair[1]})
	}
	return out
}

// P17.1: orders that were reckoned elsewhere.
func TestOrderPublished(t *testing.T) {
	for _, x := range []struct {
		id    api.ID
		nodes int
		want  []int
	}{
		{api.ID{}, 5, []int{3, 4, 2, 1, 5}},
		{api.ID{}, 9, []int{6, 9, 3, 4, 8, 2, 7, 1, 5}},
		{digest.Sum([]byte("abc")), 5, []int{5, 2, 4, 3, 1}},
		{digest.Sum([]byte("abc")), 9, []int{7, 5, 8, 6, 2, 4, 9, 3, 1}},
		{ones(255), 5, []int{4, 1, 3, 5, 2}},
		{ones(255), 9, []int{4, 8, 9, 1, 7, 6, 3, 5, 2}},
		{digest.Sum([]byte("a")), 64, []int{
			43, 29, 18, 4, 20, 3, 34, 21, 50, 45, 52, 36, 61, 44, 37, 57, 15, 28, 9, 64, 25, 53, 7, 16, 54, 48, 60, 62, 58, 51, 56, 24,
			63, 38, 13, 33, 11, 8, 1, 14, 47, 39, 35, 5, 42, 55, 31, 19, 30, 10, 12, 26, 49, 6, 59, 32, 23, 27, 17, 41, 40, 22, 46, 2,
		}},
	} {
		if got, e := rank.Order(x.id, x.nodes); !slices.Equal(got, x.want) || e != api.OK {
			t.Errorf("%x, %d: %v, %v, not %v", x.id, x.nodes, got, e, x.want)
		}
	}
}

// P17.1 to P17.3: the document's examples.
func TestExamples(t *testing.T) {
	x := digest.Sum([]byte("x"))
	for _, nodes := range []int{0, 65} {
		if l, e := rank.Order(x, nodes); l != nil || e != api.ErrArg {
			t.Errorf("order of %d: %v, %v", nodes, l, e)
		}
	}
	if l, e := rank.Place(x, 3, 4, nil); l != nil || e != api.ErrArg {
		t.Errorf("place of four copies: %v, %v", l, e)
	}
	if rank.Home(x, 3, 4, 1) {
		t.Error("a home of four copies at three nodes")
	}
	if l, e := rank.Order(x, 1); !slices.Equal(l, []int{1}) || e != api.OK {
		t.Errorf("order of one: %v, %v", l, e)
	}
	if l, e := rank.Place(x, 1, 1, []int{1}); !slices.Equal(l, spots(1, 1)) || e != api.OK {
		t.Errorf("place at one: %v, %v", l, e)
	}
	if l, e := rank.Place(x, 1, 1, nil); len(l) != 0 || e != api.OK {
		t.Errorf("place at none: %v, %v", l, e)
	}
}

// P17.1: a number of nodes that can't be is refused, and the bounds are not.
func TestOrderRefuses(t *testing.T) {
	for _, nodes := range wrongCounts() {
		if l, e := rank.Order(api.ID{1}, nodes); l != nil || e != api.ErrArg {
			t.Errorf("%d: %v, %v", nodes, l, e)
		}
	}
	for _, nodes := range []int{1, 64} {
		if l, e := rank.Order(api.ID{1}, nodes); len(l) != nodes || e != api.OK {
			t.Errorf("%d: %v, %v", nodes, l, e)
		}
	}
}

// P17.2: nobody is a home where the nodes or the copies can't be.
func TestHomeRefuses(t *testing.T) {
	id := digest.Sum([]byte("abc"))
	for _, nodes := range wrongCounts() {
		for _, copies := range append(wrongCounts(), 1, 2, 64) {
			for node := -1; node <= 66; node++ {
				if rank.Home(id, nodes, copies, node) {
					t.Fatalf("%d is a home of %d copies at %d nodes", node, copies, nodes)
				}
			}
		}
	}
	for nodes := 1; nodes <= 64; nodes++ {
		for _, copies := range append(wrongCounts(), nodes+1, nodes+2, -nodes) {
			for node := range nodes + 2 {
				if rank.Home(id, nodes, copies, node) {
					t.Fatalf("%d is a home of %d copies at %d nodes", node, copies, nodes)
				}
			}
		}
	}
}

// P17.2: what is no node is no home, though its last byte or half be a node's.
func TestHomeOfNoNode(t *testing.T) {
	for id := range 20 {
		for _, nodes := range []int{1, 5, 64} {
			for _, node := range append(wrongCounts(), nodes+1, -nodes, nodes+256, nodes+1<<32) {
				if (node < 1 || node > nodes) && rank.Home(api.ID{byte(id)}, nodes, nodes, node) {
					t.Errorf("%d is a home at %d nodes", node, nodes)
				}
			}
		}
	}
}

// P17.3: nodes or copies that can't be are refused, whoever is live.
func TestPlaceRefuses(t *testing.T) {
	for _, live := range [][]int{nil, {}, {1}, upTo(64), {-1, 99}} {
		for _, nodes := range wrongCounts() {
			for _, copies := range append(wrongCounts(), 1, 2, 64) {
				if l, e := rank.Place(api.ID{2}, nodes, copies, live); l != nil || e != api.ErrArg {
					t.Fatalf("%d, %d, %v: %v, %v", nodes, copies, live, l, e)
				}
			}
		}
		for nodes := 1; nodes <= 64; nodes++ {
			for _, copies := range append(wrongCounts(), nodes+1, nodes+2, -nodes) {
				if l, e := rank.Place(api.ID{2}, nodes, copies, live); l != nil || e != api.ErrArg {
					t.Fatalf("%d, %d, %v: %v, %v", nodes, copies, live, l, e)
				}
			}
			for _, copies := range []int{1, nodes} {
				if _, e := rank.Place(api.ID{2}, nodes, copies, live); e != api.OK {
					t.Fatalf("%d, %d, %v: %v", nodes, copies, live, e)
				}
			}
		}
	}
}

// P17.3: who stands for which home, step by step: the order is 6 9 3 4 8 2 7 1 5.
func TestPlaceStepByStep(t *testing.T) {
	for _, x := range []struct {
		live []int
		want []api.Spot
	}{
		{[]int{1, 2, 3, 4, 5, 6, 7, 8, 9}, spots(6, 6, 9, 9, 3, 3)},
		{[]int{1, 2, 4, 5, 6, 7, 8, 9}, spots(6, 6, 9, 9, 4, 3)},
		{[]int{1, 2, 4, 5, 7, 8, 9}, spots(4, 6, 9, 9, 8, 3)},
		{[]int{1, 2, 5, 7, 8, 9}, spots(8, 6, 9, 9, 2, 3)},
		{[]int{5, 1, 9}, spots(1, 6, 9, 9, 5, 3)},
		{[]int{5, 9}, spots(5, 6, 9, 9)},
		{[]int{5, 3}, spots(5, 6, 3, 3)},
		{[]int{5}, spots(5, 6)},
		{[]int{3}, spots(3, 3)},
		{nil, nil},
	} {
		if got, e := rank.Place(api.ID{}, 9, 3, x.live); !slices.Equal(got, x.want) || e != api.OK {
			t.Errorf("live %v: %v, %v, not %v", x.live, got, e, x.want)
		}
	}
}

// P17.3: numbers that are none of the nodes' do not count, though a greater cluster have them; nor does the second time of one that stands there twice.
func TestPlaceOfOddLists(t *testing.T) {
	want := spots(3, 3, 1, 4)
	for _, live := range [][]int{
		{1, 3}, {3, 1}, {3, 3, 1, 1, 1}, {1, 3, 6, 9, 64}, {0, 3, -1, 1, -4, -2},
		{65, 1, 256 + 4, 256 + 2, 3, 1<<32 + 4, math.MaxInt, math.MinInt, 1}, slices.Repeat([]int{3, 1, 7}, 100000),
	} {
		if got, e := rank.Place(api.ID{}, 5, 2, live); !slices.Equal(got, want) || e != api.OK {
			t.Errorf("%d live: %v, %v, not %v", len(live), got, e, want)
		}
	}
	if got, e := rank.Place(api.ID{}, 5, 5, slices.Repeat([]int{2, 2, 6, 0}, 10)); !slices.Equal(got, spots(2, 2)) || e != api.OK {
		t.Errorf("one live: %v, %v", got, e)
	}
}

// Rule 4: who is live is neither changed nor kept, and what is behind it not looked at.
func TestPlaceLeavesTheList(t *testing.T) {
	all := []int{9, 9, 5, 8, 2, 6, 3, 4, 7, 1}
	was := slices.Clone(all)
	live := all[2:5]
	want := spots(8, 6, 2, 9, 5, 3)
	got := place(t, api.ID{}, 9, 3, live)
	if !slices.Equal(got, want) || !slices.Equal(all, was) {
		t.Errorf("%v of %v", got, all)
	}
	clear(all)
	if !slices.Equal(got, want) {
		t.Errorf("%v, now that the list is wiped", got)
	}
}

// Rule 4: an answer is new memory, its spare room too.
func TestAnswersAreNew(t *testing.T) {
	id := digest.Sum([]byte("abc"))
	for _, nodes := range []int{1, 9, 64} {
		first, second := order(t, id, nodes), order(t, id, nodes)
		clear(first[:cap(first)])
		if !slices.Equal(second, plainOrder(id, nodes)) || !slices.Equal(order(t, id, nodes), second) {
			t.Errorf("an order of %d shares memory", nodes)
		}
		live := []int{nodes, 1}
		a, b := place(t, id, nodes, nodes, live), place(t, id, nodes, nodes, live)
		clear(a[:cap(a)])
		if !slices.Equal(b, plainPlace(second, nodes, live)) || !slices.Equal(place(t, id, nodes, nodes, live), b) {
			t.Errorf("spots at %d nodes share memory", nodes)
		}
	}
}

// Rule 7: many at once are answered as one is.
func TestManyAtOnce(t *testing.T) {
	id := digest.Sum([]byte("many"))
	want, at := plainOrder(id, 64), plainPlace(plainOrder(id, 64), 9, upTo(50))
	var all sync.WaitGroup
	for range 8 {
		all.Go(func() {
			for range 50 {
				l, _ := rank.Order(id, 64)
				p, _ := rank.Place(id, 64, 9, upTo(50))
				if !slices.Equal(l, want) || !slices.Equal(p, at) || !rank.Home(id, 64, 1, want[0]) {
					t.Errorf("%v, %v", l, p)
				}
			}
		})
	}
	all.Wait()
}
