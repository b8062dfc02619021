package view_test

import (
	"math"
	"slices"
	"testing"

	"chartulary/api"
	"chartulary/view"
)

const most = 1<<31 - 1

// The words about a node, by their statuses.
func alive(node, inc int) api.Member   { return api.Member{ID: node, Status: 1, Inc: inc} }
func suspect(node, inc int) api.Member { return api.Member{ID: node, Status: 2, Inc: inc} }
func dead(node, inc int) api.Member    { return api.Member{ID: node, Status: 3, Inc: inc} }
func left(node, inc int) api.Member    { return api.Member{ID: node, Status: 4, Inc: inc} }

// list tells a list of words.
func list(l ...api.Member) []api.Member { return l }

// full tells a view of all nodes, with unlike statuses and Incs.
func full() []api.Member {
	var v []api.Member
	for node := 1; node <= 64; node++ {
		v = append(v, api.Member{ID: node, Status: 1 + node%4, Inc: node * 7 % 5})
	}
	return v
}

// wrong tells words that may not be: beyond each bound, and far from it.
func wrong() []api.Member {
	return list(
		api.Member{}, alive(0, 0), alive(65, 0), alive(-1, 0), alive(1<<32+1, 0), alive(math.MinInt, 0), alive(math.MaxInt, 0),
		api.Member{ID: 2}, api.Member{ID: 2, Status: 5}, api.Member{ID: 2, Status: -1}, api.Member{ID: 2, Status: 1<<32 + 1},
		alive(2, -1), dead(2, most+1), suspect(2, 1<<32), left(2, math.MinInt), alive(2, math.MaxInt),
	)
}

// lists tells lists of all kinds: views, and what is none, for one of its words, or for its order.
func lists() [][]api.Member {
	l := [][]api.Member{
		nil, {}, {alive(1, 0)}, {left(64, most)}, {alive(1, 0), suspect(3, 2)}, {alive(1, 5), dead(2, 4), left(3, 3), suspect(4, 2)}, full(),
		{alive(3, 0), alive(1, 0)}, {alive(1, 0), alive(1, 0)}, {alive(1, 0), suspect(1, 0)}, {dead(9, 1), alive(9, 2)},
		{alive(1, 0), alive(3, 0), alive(2, 0)}, {alive(2, 0), alive(1, 0), alive(3, 0)}, {alive(1, 0), alive(2, 0), alive(1, 0)},
		append(full(), alive(65, 0)), append(full(), alive(64, 0)), append(full(), full()...), slices.Repeat(list(alive(1, 0)), 70),
	}
	backward := full()
	slices.Reverse(backward)
	l = append(l, backward)
	for _, m := range wrong() {
		l = append(l, list(m), list(alive(1, 0), m), list(m, alive(3, 0)), list(alive(1, 0), m, alive(3, 0)))
	}
	return l
}

func plainMay(m api.Member) bool {
	return 1 <= m.ID && m.ID <= 64 && 1 <= m.Status && m.Status <= 4 && 0 <= m.Inc && m.Inc <= most
}

// plainCheck tells whether a list is a view, as the document's words say.
func plainCheck(v []api.Member) api.Errno {
	for i, m := range v {
		for _, behind := range v[i+1:] {
			if m.ID >= behind.ID {
				return api.ErrArg
			}
		}
		if !plainMay(m) {
			return api.ErrArg
		}
	}
	return api.OK
}

// plainOver tells whether a is over b, both about one node.
func plainOver(a, b api.Member) bool {
	if a.Inc == b.Inc {
		return a.Status > b.Status
	}
	return a.Inc > b.Inc
}

// plainMerge tells what the document's words say of a Merge: of each node the word that is over all others.
func plainMerge(v, words []api.Member) ([]api.Member, []api.Member, api.Errno) {
	if plainCheck(v) != api.OK || slices.ContainsFunc(words, func(m api.Member) bool { return !plainMay(m) }) {
		return nil, nil, api.ErrArg
	}
	var next, fresh []api.Member
	for node := 1; node <= 64; node++ {
		var best api.Member
		for _, m := range slices.Concat(v, words) {
			if m.ID == node && (best.ID == 0 || plainOver(m, best)) {
				best = m
			}
		}
		if best.ID != 0 {
			next = append(next, best)
			if !slices.Contains(v, best) {
				fresh = append(fresh, best)
			}
		}
	}
	return next, fresh, api.OK
}

// plainNodes tells the nodes of which a view has one of such statuses.
func plainNodes(v []api.Member, statuses ...int) []int {
	var out []int
	for _, m := range v {
		if plainCheck(v) == api.OK && slices.Contains(statuses, m.Status) {
			out = append(out, m.ID)
		}
	}
	return out
}

// merges holds a Merge against the document's words.
func merges(t *testing.T, v, words []api.Member) {
	t.Helper()
	next, fresh, e := view.Merge(v, words)
	wantNext, wantFresh, want := plainMerge(v, words)
	if !slices.Equal(next, wantNext) || !slices.Equal(fresh, wantFresh) || e != want {
		t.Fatalf("merge %v, %v: %v; %v; %v, not %v; %v; %v", v, words, next, fresh, e, wantNext, wantFresh, want)
	}
	if e != api.OK && (next != nil || fresh != nil) {
		t.Fatalf("merge %v, %v: lists beside %v", v, words, e)
	}
}

// asks holds all calls at one list against the document's words.
func asks(t *testing.T, v []api.Member) {
	t.Helper()
	want := plainCheck(v)
	if e := view.Check(v); e != want {
		t.Errorf("check %v: %v, not %v", v, e, want)
	}
	if got, want := view.Live(v), plainNodes(v, 1, 2); !slices.Equal(got, want) {
		t.Errorf("live %v: %v, not %v", v, got, want)
	}
	if got, want := view.Alive(v), plainNodes(v, 1); !slices.Equal(got, want) {
		t.Errorf("alive %v: %v, not %v", v, got, want)
	}
	for _, node := range []int{math.MinInt, -1, 0, 1, 2, 3, 4, 9, 33, 63, 64, 65, 1<<32 + 1, math.MaxInt} {
		gets(t, v, node)
	}
}

// gets holds a Get against the document's words.
func gets(t *testing.T, v []api.Member, node int) {
	t.Helper()
	want, we := api.Member{}, plainCheck(v)
	if we == api.OK {
		we = api.ErrMissing
		for _, m := range v {
			if m.ID == node {
				want, we = m, api.OK
			}
		}
	}
	if got, e := view.Get(v, node); got != want || e != we {
		t.Errorf("get %d of %v: %v, %v, not %v, %v", node, v, got, e, want, we)
	}
}

// The document's examples.
func TestExamples(t *testing.T) {
	v := list(alive(1, 0), suspect(3, 2))
	next, fresh, e := view.Merge(v, list(alive(3, 3), dead(2, 1), alive(1, 0)))
	if !slices.Equal(next, list(alive(1, 0), dead(2, 1), alive(3, 3))) || !slices.Equal(fresh, list(dead(2, 1), alive(3, 3))) || e != api.OK {
		t.Errorf("merge: %v; %v; %v", next, fresh, e)
	}
	if live, alive := view.Live(v), view.Alive(v); !slices.Equal(live, []int{1, 3}) || !slices.Equal(alive, []int{1}) {
		t.Errorf("live %v, alive %v", live, alive)
	}
	if m, e := view.Get(v, 3); m != suspect(3, 2) || e != api.OK {
		t.Errorf("get 3: %v, %v", m, e)
	}
	if m, e := view.Get(v, 2); m != (api.Member{}) || e != api.ErrMissing {
		t.Errorf("get 2: %v, %v", m, e)
	}
	if e := view.Check(list(alive(3, 0), alive(1, 0))); e != api.ErrArg {
		t.Errorf("check: %v", e)
	}
	if next, fresh, e := view.Merge(v, list(alive(65, 0))); next != nil || fresh != nil || e != api.ErrArg {
		t.Errorf("merge of 65: %v; %v; %v", next, fresh, e)
	}
}

// P12.1: lists of all kinds, views and none.
func TestLists(t *testing.T) {
	for _, v := range lists() {
		asks(t, v)
	}
}

// P12.1: a wrong word, or one out of its place, is found at whatever place.
func TestCheckAtEachPlace(t *testing.T) {
	for at := range 64 {
		for _, m := range wrong() {
			v := full()
			v[at] = m
			asks(t, v)
		}
		for _, m := range list(alive(at, 0), alive(at+2, 0), api.Member{ID: at + 1}, alive(at+1, -1), alive(at+1, most+1)) {
			v := full()
			v[at] = m
			asks(t, v)
			if e := view.Check(v); e != api.ErrArg {
				t.Errorf("%v at %d: %v", m, at, e)
			}
		}
	}
}

// P12.1: each node is found in views of each size, and where it is not, it is missing.
func TestGetEachNode(t *testing.T) {
	for step := 1; step <= 64; step++ {
		for first := range step {
			var v []api.Member
			for i := first; i < 64; i += step {
				v = append(v, full()[i])
			}
			for node := -1; node <= 66; node++ {
				gets(t, v, node)
			}
			asks(t, v)
		}
	}
}

// P12.1: who is live, and who is Alive, goes by the status, whatever the Inc.
func TestLiveByStatus(t *testing.T) {
	for _, inc := range []int{0, 1, most} {
		v := list(alive(2, inc), suspect(5, inc), dead(6, inc), left(7, inc), suspect(33, inc), alive(64, inc))
		if live, alive := view.Live(v), view.Alive(v); !slices.Equal(live, []int{2, 5, 33, 64}) || !slices.Equal(alive, []int{2, 64}) {
			t.Errorf("Inc %d: live %v, alive %v", inc, live, alive)
		}
	}
	for _, none := range [][]api.Member{nil, {}, {dead(1, 0), left(2, 0)}, {alive(1, 0), alive(1, 0)}, {alive(2, 0), alive(1, 0)}, {alive(1, 0), {ID: 2}}, {alive(1, 0), alive(65, 0)}} {
		if live, alive := view.Live(none), view.Alive(none); len(live) != 0 || len(alive) != 0 {
			t.Errorf("of %v: live %v, alive %v", none, live, alive)
		}
	}
}

// P12.1: whether two lists are the same, of any: views or none, nil as empty.
func TestSame(t *testing.T) {
	l := lists()
	for i, a := range l {
		for j, b := range l {
			want := len(a) == len(b)
			for k := range a {
				want = want && a[k] == b[k]
			}
			if got := view.Same(a, slices.Clone(b)); got != want || i == j && !got {
				t.Errorf("same %v, %v: %v", a, b, got)
			}
		}
	}
	for at := range 64 {
		for _, turn := range []func(m *api.Member){func(m *api.Member) { m.ID++ }, func(m *api.Member) { m.Status++ }, func(m *api.Member) { m.Inc++ }} {
			v := full()
			turn(&v[at])
			if view.Same(v, full()) || view.Same(full(), v) || !view.Same(v, v) {
				t.Errorf("same, where %d is %v", at, v[at])
			}
		}
		if view.Same(full()[:at], full()) || view.Same(full(), full()[:at]) || !view.Same(full()[:at], full()[:at]) {
			t.Errorf("same with its first %d words", at)
		}
	}
}
