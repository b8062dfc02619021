package swim

import (
	"math/rand"
	"slices"
	"testing"

	"chartulary/api"
)

// P16.2: whoever is suspected, and is no more, those of an age come out rising, each once, whatever the heap looks like.
func TestDoubts(t *testing.T) {
	r := rand.New(rand.NewSource(1))
	for range 2000 {
		var d doubts
		ages := map[int]int{}
		age := 1 + r.Intn(8)
		for range 60 {
			switch node := 1 + r.Intn(64); r.Intn(4) {
			case 0, 1:
				d.begin(node)
				ages[node] = 0
			case 2:
				d.end(node)
				delete(ages, node)
			case 3:
				d.grow()
				var want []int
				for node := range ages {
					ages[node]++
					if ages[node] == age {
						want = append(want, node)
					}
				}
				slices.Sort(want)
				if got := d.past(age); !slices.Equal(got, want) {
					t.Fatalf("past %d: %v, not %v", age, got, want)
				}
				for _, node := range want {
					delete(ages, node)
				}
			}
			if len(d) != len(ages) {
				t.Fatalf("%v, not %v", d, ages)
			}
			for _, x := range d {
				if was, is := ages[x.node]; !is || was != x.age {
					t.Fatalf("%v, not %v", d, ages)
				}
			}
		}
	}
}

// P16.3: relays are kept by my calls, the oldest one goes, and each passes one answer on.
func TestRelays(t *testing.T) {
	r := relays{}
	mine := func(n int) api.Call { return api.Call{Node: 1, Boot: 2, N: n} }
	for n := 5; n <= 30; n++ {
		r.put(mine(n), asker{n, api.Call{N: 100 * n}})
		if len(r) != min(n-4, api.MaxRelays) {
			t.Errorf("%d relays at %d", len(r), n)
		}
	}
	for n := 40; n >= 0; n-- {
		var got []api.Note
		for range 2 {
			r.pass(mine(n), func(x api.Note) { got = append(got, x) })
			r.pass(api.Call{Node: 2, Boot: 2, N: n}, func(x api.Note) { got = append(got, x) })
		}
		if is := n >= 15 && n <= 30; len(got) == 1 != is || is && (got[0].Kind != api.NoteAck || got[0].To != n || got[0].Call.N != 100*n) {
			t.Errorf("%d: %+v", n, got)
		}
	}
	if len(r) != 0 {
		t.Errorf("%v are left", r)
	}
}

// Nothing of a call is kept that no later one needs.
func TestNothingIsKept(t *testing.T) {
	s, _ := New(1, 3, 1, 1, 1, nil)
	for range 20 {
		s.Tick(nil)
		s.Take(api.Note{Kind: api.NoteFull, From: 2, To: 1}, nil)
		if s.send != nil {
			t.Fatal("where notes went is kept")
		}
	}
	s.Leave()
	if s.send != nil {
		t.Error("where notes went is kept")
	}
}
