package probe

import (
	"slices"
	"testing"

	"chartulary/lot"
)

// A thing is found at the first place where it stands, whatever it is.
func TestPlace(t *testing.T) {
	numbers := []int{3, 1, 3, 0}
	for _, x := range []struct {
		number, at int
		is         bool
	}{{3, 0, true}, {1, 1, true}, {0, 3, true}, {2, 0, false}, {-1, 0, false}} {
		if at, is := place(numbers, x.number); at != x.at || is != x.is {
			t.Errorf("%d: %d, %v", x.number, at, is)
		}
	}
	if at, is := place(nil, ""); at != 0 || is {
		t.Errorf("in none: %d, %v", at, is)
	}
	if at, is := place([]string{"a", "", "b"}, "b"); at != 2 || !is {
		t.Errorf("a text: %d, %v", at, is)
	}
	if at, is := place([][2]int{{1, 2}, {2, 1}}, [2]int{2, 1}); at != 1 || !is {
		t.Errorf("an array: %d, %v", at, is)
	}
}

// An order is drawn once, however often it is gone through, and can be left early.
func TestShuffled(t *testing.T) {
	l, _ := lot.New([]int{0, 1, 5, 5, 5})
	places := shuffled(3, l)
	for range 3 {
		if got := slices.Collect(places); !slices.Equal(got, []int{2, 1, 0}) {
			t.Errorf("places: %v", got)
		}
		for at := range places {
			if at != 2 {
				t.Errorf("the first place: %d", at)
			}
			break
		}
	}
	if l.Used() != 2 {
		t.Errorf("%d lots drawn", l.Used())
	}
}

// Nodes come in the order of their places, and stay where they were.
func TestPermuted(t *testing.T) {
	nodes := []int{9, 8, 7}
	out := permuted(nodes, slices.Values([]int{2, 0, 1}))
	if !slices.Equal(out, []int{7, 9, 8}) || !slices.Equal(nodes, []int{9, 8, 7}) {
		t.Errorf("%v of %v", out, nodes)
	}
}

// Lots that are some are handed on, and none is drawn of them; of none others are told.
func TestSome(t *testing.T) {
	for _, numbers := range [][]int{nil, {3, 4}} {
		l, _ := lot.New(numbers)
		if some(l) != l || l.Used() != 0 {
			t.Errorf("lots of %v: others are told, or %d drawn", numbers, l.Used())
		}
	}
	for i, l := range []*lot.Lots{nil, {}} {
		if x := some(l); x == l || !slices.Equal(x.Shuffle(3), []int{1, 2, 0}) {
			t.Errorf("%d: none is told", i)
		}
	}
}
