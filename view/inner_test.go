package view

import (
	"slices"
	"testing"

	"chartulary/api"
)

// word tells a word about a node, by its Inc.
func word(node, inc int) api.Member {
	return api.Member{ID: node, Status: api.Alive, Inc: inc}
}

// P12.2: what is new can be left at any word, and is the same when it is gone through again.
func TestNews(t *testing.T) {
	was := []api.Member{word(2, 0), word(4, 0), word(5, 0), word(9, 0)}
	is := []api.Member{word(1, 0), word(2, 0), word(4, 1), word(5, 0), word(7, 0), word(9, 3), word(12, 0)}
	want := []api.Member{word(1, 0), word(4, 1), word(7, 0), word(9, 3), word(12, 0)}
	each := news(was, is)
	for most := range len(want) + 2 {
		var got []api.Member
		for m := range each {
			if len(got) == most {
				break
			}
			got = append(got, m)
		}
		if !slices.Equal(got, want[:min(most, len(want))]) {
			t.Errorf("%d words: %v", most, got)
		}
	}
}

// P12.2: what is new goes by both lists, even if the earlier one has more, or either has nothing.
func TestNewsOfUnlikeLists(t *testing.T) {
	for _, x := range []struct{ was, is, want []api.Member }{
		{nil, nil, nil},
		{nil, []api.Member{word(3, 1)}, []api.Member{word(3, 1)}},
		{[]api.Member{word(3, 1)}, nil, nil},
		{[]api.Member{word(1, 0), word(2, 0), word(8, 0)}, []api.Member{word(2, 0), word(7, 1)}, []api.Member{word(7, 1)}},
		{[]api.Member{word(1, 0), word(2, 0)}, []api.Member{word(3, 0)}, []api.Member{word(3, 0)}},
	} {
		if got := slices.Collect(news(x.was, x.is)); !slices.Equal(got, x.want) {
			t.Errorf("%v, %v: %v", x.was, x.is, got)
		}
	}
}

// P12.1: a key is a key of any kind of things, and what rises by it is searched by it.
func TestBy(t *testing.T) {
	l := []string{"a", "bb", "cccc", "ddddd"}
	for n := range 7 {
		at, is := slices.BinarySearchFunc(l, n, by(func(s string) int { return len(s) }))
		want := slices.Index([]int{1, 2, 4, 5}, n)
		if is != (want >= 0) || is && at != want {
			t.Errorf("the length %d: %d, %v", n, at, is)
		}
	}
	at, is := slices.BinarySearchFunc(l, "bb", by(func(s string) string { return s }))
	if at != 1 || !is {
		t.Errorf("the text bb: %d, %v", at, is)
	}
	for node := range 12 {
		at, is := find([]api.Member{word(2, 5), word(5, 1), word(9, 0)}, node)
		want := 0
		for _, id := range []int{2, 5, 9} {
			if id < node {
				want++
			}
		}
		if at != want || is != (node == 2 || node == 5 || node == 9) {
			t.Errorf("the node %d: %d, %v", node, at, is)
		}
	}
}
