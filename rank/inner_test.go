package rank

import (
	"crypto/sha256"
	"encoding/binary"
	"math"
	"math/rand"
	"slices"
	"testing"

	"chartulary/api"
)

// P17.1: the greater weight comes first, of the same weight the lesser number, wherever they stood. (No two ids' weights are known to be the same.)
func TestOrderedOfSameWeights(t *testing.T) {
	for _, x := range []struct {
		l    []weighted
		want []int
	}{
		{nil, []int{}},
		{[]weighted{{1, 0}}, []int{1}},
		{[]weighted{{1, 7}, {2, 7}, {3, 7}}, []int{1, 2, 3}},
		{[]weighted{{3, 7}, {1, 7}, {2, 7}}, []int{1, 2, 3}},
		{[]weighted{{1, 0}, {2, 9}, {3, 0}, {4, 9}}, []int{2, 4, 1, 3}},
		{[]weighted{{64, 5}, {9, 5}, {10, 6}, {1, 4}}, []int{10, 9, 64, 1}},
		{[]weighted{{1, 1<<63 - 1}, {2, 1 << 63}, {3, math.MaxUint64}, {4, 0}, {5, 1}}, []int{3, 2, 1, 5, 4}},
		{[]weighted{{1, 1 << 32}, {2, 1<<32 + 1}, {3, 1<<63 + 1}, {4, 1 << 63}}, []int{3, 4, 2, 1}},
	} {
		if got := ordered(slices.Clone(x.l)); !slices.Equal(got, x.want) {
			t.Errorf("%v: %v, not %v", x.l, got, x.want)
		}
	}
}

// P17.1: the same by chance, of so few weights that many are the same.
func TestOrderedByChance(t *testing.T) {
	r := rand.New(rand.NewSource(17))
	for range 5000 {
		var l []weighted
		for i := range r.Intn(65) {
			l = append(l, weighted{node: i + 1, weight: uint64(r.Intn(5)) << r.Intn(62)})
		}
		r.Shuffle(len(l), func(i, j int) { l[i], l[j] = l[j], l[i] })
		weights := map[int]uint64{}
		for _, x := range l {
			weights[x.node] = x.weight
		}
		got := ordered(slices.Clone(l))
		if len(got) != len(l) {
			t.Fatalf("%v: %v", l, got)
		}
		for i := 1; i < len(got); i++ {
			a, b := got[i-1], got[i]
			if weights[a] < weights[b] || weights[a] == weights[b] && a >= b {
				t.Fatalf("%v: %d is ahead of %d", l, a, b)
			}
		}
	}
}

// A weight is of 33 bytes, the last of which is the node's number, and leaves the id as it was.
func TestWeigh(t *testing.T) {
	for node := 1; node <= api.MaxNodes; node++ {
		id := api.ID(sha256.Sum256([]byte{1, byte(node)}))
		was := id
		sum := sha256.Sum256(slices.Concat(id[:], []byte{byte(node)}))
		if got, want := weigh(id, node), binary.BigEndian.Uint64(sum[:8]); got != want || id != was {
			t.Errorf("node %d: %d, not %d", node, got, want)
		}
	}
}

// P17.3: a list's nodes are marked, once, in whatever order; nothing else is.
func TestAmong(t *testing.T) {
	for _, l := range [][]int{nil, {}, {0}, {-1, 65, 1 << 8, 1<<8 + 1, 1 << 32, 1<<32 + 1, math.MaxInt, math.MinInt}, {1}, {64}, {64, 1, 64, 64, 65, 7}} {
		got := among(l)
		for node, is := range got {
			if want := node > 0 && slices.Contains(l, node); is != want {
				t.Errorf("among %v: %d is %v", l, node, is)
			}
		}
	}
}

// P17.3: who is live is handed on in order, a home ahead of the others, and can be left at any one.
func TestLiving(t *testing.T) {
	others := []int{9, 2, 64, 5, 1}
	for _, x := range []struct{ live, want []int }{
		{nil, nil},
		{[]int{3, 4}, nil},
		{[]int{7}, []int{7}},
		{[]int{1, 9}, []int{9, 1}},
		{[]int{1, 2, 5, 7, 9, 64}, []int{7, 9, 2, 64, 5, 1}},
		{[]int{1, 2, 5, 8, 9, 64}, []int{9, 2, 64, 5, 1}},
	} {
		each := living(7, others, among(x.live))
		for most := range len(x.want) + 2 {
			var got []int
			for node := range each {
				if len(got) == most {
					break
				}
				got = append(got, node)
			}
			if !slices.Equal(got, x.want[:min(most, len(x.want))]) {
				t.Errorf("%d of %v: %v", most, x.live, got)
			}
		}
	}
}

// stand tells spots of nodes and homes, one behind the other.
func stand(l ...int) []api.Spot {
	var out []api.Spot
	for pair := range slices.Chunk(l, 2) {
		out = append(out, api.Spot{Node: pair[0], Home: pair[1]})
	}
	return out
}

// P17.3: nobody is taken twice, the first home has the first choice, and a home that is live takes nobody's stand-in.
func TestSpots(t *testing.T) {
	homes, others := []int{4, 8, 6}, []int{5, 1, 7, 2, 3}
	for _, x := range []struct {
		live []int
		want []api.Spot
	}{
		{nil, nil},
		{[]int{4, 6, 8}, stand(4, 4, 8, 8, 6, 6)},
		{[]int{1, 2, 3, 4, 5, 6, 7, 8}, stand(4, 4, 8, 8, 6, 6)},
		{[]int{1, 2, 3, 5, 6, 7, 8}, stand(5, 4, 8, 8, 6, 6)},
		{[]int{1, 2, 3, 5, 7, 8}, stand(5, 4, 8, 8, 1, 6)},
		{[]int{1, 2, 3, 5, 7}, stand(5, 4, 1, 8, 7, 6)},
		{[]int{2, 3, 7}, stand(7, 4, 2, 8, 3, 6)},
		{[]int{6, 3}, stand(3, 4, 6, 6)},
		{[]int{8, 3}, stand(3, 4, 8, 8)},
		{[]int{4}, stand(4, 4)},
		{[]int{6}, stand(6, 6)},
		{[]int{3}, stand(3, 4)},
		{[]int{9, 64}, nil},
	} {
		free := among(x.live)
		if got := spots(homes, others, free); !slices.Equal(got, x.want) {
			t.Errorf("live %v: %v, not %v", x.live, got, x.want)
		}
		if free != among(x.live) {
			t.Errorf("live %v: who was taken is changed at the caller", x.live)
		}
	}
}
