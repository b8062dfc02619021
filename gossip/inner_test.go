package gossip

import (
	"math"
	"math/rand"
	"slices"
	"testing"

	"chartulary/api"
)

// pair is a thing that has more than its line goes by.
type pair struct{ key, name int }

// byKey tells whether a's key is the lesser one.
func byKey(a, b pair) bool {
	return a.key < b.key
}

// P13.3: things of any kind stand in order, in whatever order they were put; those that are alike as they were put.
func TestLinePut(t *testing.T) {
	r := rand.New(rand.NewSource(13))
	for range 2000 {
		l := line[pair]{less: byKey}
		var want []pair
		for i := range r.Intn(40) {
			x := pair{r.Intn(8), i}
			l.put(x)
			want = append(want, x)
			slices.SortStableFunc(want, func(a, b pair) int { return a.key - b.key })
			if !slices.Equal(l.things, want) {
				t.Fatalf("put %v: %v, not %v", x, l.things, want)
			}
		}
	}
	texts := line[string]{less: func(a, b string) bool { return a > b }}
	for _, s := range []string{"b", "d", "", "a", "c"} {
		texts.put(s)
	}
	if !slices.Equal(texts.things, []string{"d", "c", "b", "a", ""}) {
		t.Errorf("texts: %q", texts.things)
	}
}

// P13.3: what is cut out is told in order, and by itself; the others stay in order; nothing is kept of what is out.
func TestLineCut(t *testing.T) {
	for n := range 6 {
		for from := range n + 2 {
			for _, to := range []int{math.MinInt, -1, 0, 1, 2, 3, 4, 5, 6, 7, math.MaxInt} {
				l := line[int]{less: func(a, b int) bool { return a < b }}
				var want, rest []int
				for i := range n {
					l.put(n - i)
					if i >= from && i < to {
						want = append(want, i+1)
					} else {
						rest = append(rest, i+1)
					}
				}
				all := l.things
				out := l.cut(from, to)
				if !slices.Equal(out, want) || !slices.Equal(l.things, rest) {
					t.Fatalf("cut from %d to %d of %d: %v, and %v is left", from, to, n, out, l.things)
				}
				for _, x := range all[len(rest):] {
					if x != 0 {
						t.Fatalf("cut from %d to %d of %d: %v is kept", from, to, n, all)
					}
				}
				clear(out)
				if !slices.Equal(l.things, rest) {
					t.Fatalf("cut from %d to %d of %d: %v shares memory", from, to, n, l.things)
				}
			}
		}
	}
}

// A thing is found at the first place where such a one stands.
func TestLineFind(t *testing.T) {
	l := line[pair]{less: byKey}
	for i, key := range []int{3, 1, 3, 2} {
		l.put(pair{key, i})
	}
	for key, want := range []int{-1, 0, 1, 2, -1} {
		if at := l.find(func(x pair) bool { return x.key == key }); at != want {
			t.Errorf("the key %d: %d, not %d", key, at, want)
		}
	}
}

// P13.3: who was told less often is told sooner, of as often told ones the lesser node, whatever the words are.
func TestSooner(t *testing.T) {
	var l []telling
	for told := range 3 {
		for _, id := range []int{1, 2, 64} {
			l = append(l, telling{api.Member{ID: id, Status: 1 + (told+id)%4, Inc: 9 - id%7}, told})
		}
	}
	for i, a := range l {
		for j, b := range l {
			if sooner(a, b) != (i < j) {
				t.Errorf("sooner %+v, %+v: %v", a, b, i >= j)
			}
		}
	}
}

// A buffer keeps no more than its words, and of these nothing that they took the place of.
func TestNothingIsKept(t *testing.T) {
	g, _ := New(3)
	for inc := range 50 {
		for id := 1; id <= 3; id++ {
			g.Add(api.Member{ID: id, Status: api.Alive, Inc: inc})
		}
		if n := len(g.words.things); n != 3 {
			t.Fatalf("%d words", n)
		}
	}
	for range 9 {
		g.Take(2)
	}
	if g.Len() != 0 {
		t.Errorf("%d words are left", g.Len())
	}
	for _, x := range g.words.things[:cap(g.words.things)] {
		if x != (telling{}) {
			t.Errorf("%+v is kept", x)
		}
	}
}
