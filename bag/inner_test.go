package bag

import (
	"slices"
	"testing"

	"chartulary/api"
)

// turned tells a ring of so many places, whose n things, 1 and on, stand from a place on.
func turned(places, first, n int) ring[int] {
	r := ring[int]{places: make([]int, places), first: first}
	for i := range n {
		r.push(i+1, places)
	}
	return r
}

// P6.1: things are told by their numbers, from any place on, can be left at any of them, and are the same when they are gone through again.
func TestEach(t *testing.T) {
	for places := 1; places <= 6; places++ {
		for first := range places {
			for n := range places + 1 {
				r := turned(places, first, n)
				front, back := r.cut()
				if len(front) != min(n, places-first) || len(front)+len(back) != n {
					t.Fatalf("%d of %d places, from %d on: cut in %v and %v", n, places, first, front, back)
				}
				all := r.each()
				for most := range n + 2 {
					count := 0
					for i, x := range all {
						if count == most {
							break
						}
						if i != count || x != count+1 || r.at(i) != x {
							t.Fatalf("%d of %d places, from %d on: %d is %d", n, places, first, i, x)
						}
						count++
					}
					if count != min(most, n) {
						t.Fatalf("%d of %d places, from %d on: %d gone through, not %d", n, places, first, count, min(most, n))
					}
				}
			}
		}
	}
}

// Nothing is kept of what was taken: each place that no thing stands at is nought.
func TestTakenIsNotKept(t *testing.T) {
	for places := 1; places <= 6; places++ {
		for first := range places {
			for n := range places + 1 {
				for i := range n {
					r := turned(places, first, n)
					r.drop(i)
					kept := slices.DeleteFunc(slices.Clone(r.places), func(x int) bool { return x == 0 })
					if len(kept) != n-1 || slices.Contains(kept, i+1) {
						t.Fatalf("%d of %d places, from %d on: %v, when %d was taken", n, places, first, r.places, i)
					}
				}
			}
		}
	}
	b, _ := New[*int](2000)
	for range 3 {
		for range 2000 {
			b.Put(new(int))
		}
		for b.Len() > 0 {
			b.Take(b.Len() / 2)
		}
		if slices.ContainsFunc(b.held.places, func(x *int) bool { return x != nil }) {
			t.Fatal("an empty bag keeps what was taken")
		}
	}
}

// A bag has no more places than its room, and none before something is put.
func TestPlaces(t *testing.T) {
	for _, room := range []int{0, 1, 2, 3, 4, 8, 1000, 2000} {
		b, _ := New[int](room)
		if len(b.held.places) != 0 {
			t.Errorf("room %d: %d places ahead of all", room, len(b.held.places))
		}
		for i := range room + 1 {
			b.Put(i)
			if n := len(b.held.places); n < b.Len() || n > room || n > 2*b.Len() {
				t.Fatalf("room %d: %d places for %d things", room, n, b.Len())
			}
		}
	}
}

// A copy's fields are none of the first one's: neither places nor what it calls itself.
func TestCopyIsApart(t *testing.T) {
	b, _ := New[int](3)
	b.Put(1)
	c := b.Copy()
	c.held.places[0] = 5
	if x, e := b.At(0); x != 1 || e != api.OK || c.self != c || b.self != b {
		t.Errorf("%d, %v", x, e)
	}
}
