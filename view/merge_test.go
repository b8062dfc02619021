package view_test

import (
	"math/rand"
	"slices"
	"testing"

	"chartulary/api"
	"chartulary/view"
)

// some tells words about the nodes 1 to 3.
func some() []api.Member {
	var l []api.Member
	for node := 1; node <= 3; node++ {
		l = append(l, alive(node, 0), dead(node, 0), suspect(node, 1), left(node, 1))
	}
	return l
}

// views tells all views of some words.
func views() [][]api.Member {
	out := [][]api.Member{nil}
	for i := range len(some()) / 4 {
		for _, v := range out[:len(out):len(out)] {
			for _, m := range some()[4*i : 4*i+4] {
				out = append(out, append(slices.Clone(v), m))
			}
		}
	}
	return out
}

// chosen tells words by chance, of few Incs, so that words meet.
func chosen(r *rand.Rand, n, nodes int) []api.Member {
	var l []api.Member
	for range r.Intn(n + 1) {
		l = append(l, api.Member{ID: 65 - nodes + r.Intn(nodes), Status: 1 + r.Intn(4), Inc: r.Intn(3) * r.Intn(most/2)})
	}
	return l
}

// merged tells the view behind words that may be.
func merged(t *testing.T, v, words []api.Member) []api.Member {
	t.Helper()
	next, _, e := view.Merge(v, words)
	if e != api.OK {
		t.Fatalf("merge %v, %v: %v", v, words, e)
	}
	return next
}

// P12.2: all views of three nodes, and all rows of up to three words.
func TestMergeAllShort(t *testing.T) {
	for _, v := range views() {
		merges(t, v, nil)
		for _, a := range some() {
			merges(t, v, list(a))
			for _, b := range some() {
				merges(t, v, list(a, b))
				for _, c := range some() {
					merges(t, v, list(a, b, c))
				}
			}
		}
	}
}

// P12.2: long rows by chance, at small and great views.
func TestMergeByChance(t *testing.T) {
	r := rand.New(rand.NewSource(12))
	for range 4000 {
		nodes := 1 + r.Intn(64)
		v := merged(t, nil, chosen(r, 2*nodes, nodes))
		merges(t, v, chosen(r, 100, nodes))
		merges(t, v, v)
		merges(t, v, full())
		merges(t, full(), v)
	}
}

// P12.2: a word is put at its place, at whatever node; what is over takes its place, what is not changes nothing.
func TestMergeOneWord(t *testing.T) {
	for at, old := range full() {
		rest := slices.Delete(full(), at, at+1)
		next, fresh, e := view.Merge(rest, list(old))
		if !slices.Equal(next, full()) || !slices.Equal(fresh, list(old)) || e != api.OK {
			t.Errorf("put %v: %v; %v; %v", old, next, fresh, e)
		}
		for _, m := range list(alive(at+1, old.Inc+1), left(at+1, most)) {
			want := full()
			want[at] = m
			next, fresh, e := view.Merge(full(), list(m))
			if !slices.Equal(next, want) || !slices.Equal(fresh, list(m)) || e != api.OK {
				t.Errorf("%v over %v: %v; %v; %v", m, old, next, fresh, e)
			}
		}
		next, fresh, e = view.Merge(full(), list(old, alive(at+1, 0)))
		if !slices.Equal(next, full()) || len(fresh) != 0 || e != api.OK {
			t.Errorf("%v once more: %v; %v; %v", old, next, fresh, e)
		}
	}
}

// P12.2: what was new is told rising, once, and only as it is in the end.
func TestMergeTellsTheEnd(t *testing.T) {
	next, fresh, e := view.Merge(list(alive(5, 1)), list(suspect(64, 0), dead(5, 1), alive(1, 0), alive(5, 2), dead(64, 0), alive(1, 0), suspect(5, 1)))
	if want := list(alive(1, 0), alive(5, 2), dead(64, 0)); !slices.Equal(next, want) || !slices.Equal(fresh, want) || e != api.OK {
		t.Errorf("%v; %v; %v", next, fresh, e)
	}
}

// P12.2: what is no view, and words that may not be, wherever they stand, are refused.
func TestMergeRefuses(t *testing.T) {
	for _, v := range lists() {
		for _, words := range [][]api.Member{nil, {}, {alive(1, 9)}, {dead(64, 3), alive(2, 1)}, full(), {alive(65, 0)}, {alive(1, 9), {}}} {
			merges(t, v, words)
		}
		// Words need not rise.
		merges(t, nil, v)
		merges(t, full(), v)
	}
	for _, m := range wrong() {
		for at := range 64 {
			merges(t, nil, slices.Insert(full(), at, m))
			merges(t, full(), slices.Insert(full(), at, m))
		}
	}
}

// P12.2: a thousand words and more.
func TestMergeManyWords(t *testing.T) {
	r := rand.New(rand.NewSource(122))
	var words []api.Member
	for range 100 {
		words = append(words, chosen(r, 100, 64)...)
	}
	merges(t, nil, words)
	merges(t, full(), words)
	merges(t, full(), append(words, alive(1, most+1)))
}

// P12.3: in whatever order words are merged, in which groups, and how often, the same view is left.
func TestMergedAnyhow(t *testing.T) {
	r := rand.New(rand.NewSource(123))
	for range 2000 {
		words := chosen(r, 40, 1+r.Intn(20))
		want := merged(t, nil, words)
		for range 4 {
			for range r.Intn(5) {
				if len(words) > 0 {
					words = append(words, words[r.Intn(len(words))])
				}
			}
			r.Shuffle(len(words), func(i, j int) { words[i], words[j] = words[j], words[i] })
			if got := merged(t, nil, words); !view.Same(got, want) {
				t.Fatalf("of %v: %v, not %v", words, got, want)
			}
			if got := grouped(t, r, words); !view.Same(got, want) {
				t.Fatalf("of %v by groups: %v, not %v", words, got, want)
			}
		}
	}
}

// grouped tells the view of words of which groups by chance are merged by themselves, and their views then.
func grouped(t *testing.T, r *rand.Rand, words []api.Member) []api.Member {
	t.Helper()
	if len(words) < 2 || r.Intn(4) == 0 {
		return merged(t, nil, words)
	}
	at := 1 + r.Intn(len(words)-1)
	return merged(t, grouped(t, r, words[:at]), grouped(t, r, words[at:]))
}

// P12.3: a Merge of views is associative, commutative and idempotent.
func TestMergeLaws(t *testing.T) {
	all := views()
	for i, a := range all {
		if !view.Same(merged(t, a, a), a) || !view.Same(merged(t, nil, a), a) || !view.Same(merged(t, a, nil), a) {
			t.Errorf("%v with itself, or with nothing", a)
		}
		for j, b := range all {
			both := merged(t, a, b)
			if !view.Same(both, merged(t, b, a)) {
				t.Fatalf("merge %v, %v: by order", a, b)
			}
			c := all[(i*7+j*11)%len(all)]
			if !view.Same(merged(t, both, c), merged(t, a, merged(t, b, c))) {
				t.Fatalf("merge %v, %v, %v: by groups", a, b, c)
			}
		}
	}
}

// P12.3: nothing falls back: a word of the view, and each that was merged, is left, or one over it; what is left is a view, and what is new brings the old view to it.
func TestNothingFallsBack(t *testing.T) {
	r := rand.New(rand.NewSource(124))
	for range 2000 {
		v, words := merged(t, nil, chosen(r, 30, 20)), chosen(r, 30, 20)
		next, fresh, _ := view.Merge(v, words)
		if e := view.Check(next); e != api.OK || view.Check(fresh) != api.OK {
			t.Fatalf("merge %v, %v: %v; %v", v, words, next, fresh)
		}
		for _, m := range slices.Concat(v, words) {
			if got, e := view.Get(next, m.ID); e != api.OK || got != m && !plainOver(got, m) {
				t.Fatalf("merge %v, %v: %v, where %v was", v, words, got, m)
			}
		}
		again, twice, _ := view.Merge(v, fresh)
		if !view.Same(again, next) || !view.Same(twice, fresh) {
			t.Fatalf("merge %v, %v: what is new brings it to %v", v, words, again)
		}
		if same, none, _ := view.Merge(next, words); !view.Same(same, next) || len(none) != 0 {
			t.Fatalf("merge %v, %v once more: %v; %v", v, words, same, none)
		}
	}
}

// roomy tells a list over memory that has other words ahead of it and behind it, and all that memory.
func roomy(l []api.Member) (at, all []api.Member) {
	all = slices.Repeat(list(left(64, 77)), len(l)+20)
	copy(all[5:], l)
	return all[5 : 5+len(l)], all
}

// wipe turns all words of a list, those of its spare room too.
func wipe(l []api.Member) {
	l = l[:cap(l)]
	for i := range l {
		l[i] = dead(9, 99)
	}
}

// Rule 4: what is handed in stays, its spare room too, and is not looked at there; answers are new, and share no memory.
func TestMemory(t *testing.T) {
	for _, v := range [][]api.Member{nil, {}, {alive(1, 0)}, {alive(1, 0), suspect(3, 2)}, full()[:40], full()} {
		for _, words := range [][]api.Member{nil, {alive(1, 0)}, {alive(3, 9)}, {dead(2, 1), alive(1, 7)}, full()} {
			v, allV := roomy(v)
			words, allWords := roomy(words)
			wasV, wasWords := slices.Clone(allV), slices.Clone(allWords)
			merges(t, v, words)
			asks(t, v)
			next, fresh, _ := view.Merge(v, words)
			wantFresh := slices.Clone(fresh)
			wipe(next)
			if !slices.Equal(fresh, wantFresh) {
				t.Errorf("merge %v, %v: both answers share memory", v, words)
			}
			wipe(fresh)
			if !slices.Equal(allV, wasV) || !slices.Equal(allWords, wasWords) {
				t.Errorf("merge %v, %v: what is handed in is changed", wasV, wasWords)
			}
			next, fresh, _ = view.Merge(v, words)
			wantNext, wantFresh := slices.Clone(next), slices.Clone(fresh)
			wipe(allV)
			wipe(allWords)
			if !slices.Equal(next, wantNext) || !slices.Equal(fresh, wantFresh) {
				t.Errorf("merge %v, %v: the answers share memory with what is handed in", wasV, wasWords)
			}
		}
	}
}

// Rule 4: a list of words may be the view itself, or a piece of it.
func TestMergeOfItself(t *testing.T) {
	v := full()
	for _, words := range [][]api.Member{v, v[:5], v[60:], v[3:3]} {
		next, fresh, e := view.Merge(v, words)
		if !slices.Equal(next, full()) || len(fresh) != 0 || e != api.OK || !slices.Equal(v, full()) {
			t.Errorf("%v; %v; %v", next, fresh, e)
		}
	}
	all := append(list(alive(1, 0), alive(3, 0)), alive(2, 5), dead(1, 0))
	next, fresh, e := view.Merge(all[:2], all[2:])
	if !slices.Equal(next, list(dead(1, 0), alive(2, 5), alive(3, 0))) || !slices.Equal(fresh, list(dead(1, 0), alive(2, 5))) || e != api.OK {
		t.Errorf("%v; %v; %v", next, fresh, e)
	}
	if !slices.Equal(all, list(alive(1, 0), alive(3, 0), alive(2, 5), dead(1, 0))) {
		t.Errorf("%v: changed", all)
	}
}
