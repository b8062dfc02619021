package member_test

import (
	"math"
	"math/rand"
	"testing"

	"chartulary/api"
	"chartulary/member"
)

const most = 1<<31 - 1

// The words about the node 1, by their statuses.
func alive(inc int) api.Member   { return api.Member{ID: 1, Status: 1, Inc: inc} }
func suspect(inc int) api.Member { return api.Member{ID: 1, Status: 2, Inc: inc} }
func dead(inc int) api.Member    { return api.Member{ID: 1, Status: 3, Inc: inc} }
func left(inc int) api.Member    { return api.Member{ID: 1, Status: 4, Inc: inc} }

// of tells the same word about another node.
func of(id int, m api.Member) api.Member {
	m.ID = id
	return m
}

// plainMay tells whether a word may be, as the document's words say.
func plainMay(m api.Member) bool {
	return 1 <= m.ID && m.ID <= 64 && 1 <= m.Status && m.Status <= 4 && 0 <= m.Inc && m.Inc <= most
}

// plainPair tells whether both words may be, and are about one node.
func plainPair(a, b api.Member) bool {
	return plainMay(a) && plainMay(b) && a.ID == b.ID
}

// plainOver tells whether a is over b, as the document's words say.
func plainOver(a, b api.Member) bool {
	if !plainPair(a, b) {
		return false
	}
	if a.Inc == b.Inc {
		return a.Status > b.Status
	}
	return a.Inc > b.Inc
}

func plainMerge(a, b api.Member) (api.Member, api.Errno) {
	switch {
	case !plainPair(a, b):
		return api.Member{}, api.ErrArg
	case plainOver(b, a):
		return b, api.OK
	}
	return a, api.OK
}

func plainRefute(me, word api.Member) (api.Member, bool, api.Errno) {
	switch {
	case !plainPair(me, word) || me.Status != 1:
		return api.Member{}, false, api.ErrArg
	case word.Status != 1 && word.Inc >= me.Inc && word.Inc+1 > most:
		return api.Member{}, false, api.ErrRange
	case word.Status != 1 && word.Inc >= me.Inc:
		return api.Member{ID: me.ID, Status: 1, Inc: word.Inc + 1}, true, api.OK
	case word.Status == 1 && word.Inc > me.Inc:
		return api.Member{ID: me.ID, Status: 1, Inc: word.Inc}, false, api.OK
	}
	return me, false, api.OK
}

// words tells a word for each number of these three lists.
func words(ids, statuses, incs []int) []api.Member {
	var l []api.Member
	for _, id := range ids {
		for _, status := range statuses {
			for _, inc := range incs {
				l = append(l, api.Member{ID: id, Status: status, Inc: inc})
			}
		}
	}
	return l
}

// edges tells words at each bound, within it and beyond it, and far from it.
func edges() []api.Member {
	return words(
		[]int{math.MinInt, -1, 0, 1, 2, 63, 64, 65, 1<<32 + 1, math.MaxInt},
		[]int{math.MinInt, -1, 0, 1, 2, 3, 4, 5, 1<<32 + 1, math.MaxInt},
		[]int{math.MinInt, -1, 0, 1, 2, most - 1, most, most + 1, 1 << 32, math.MaxInt},
	)
}

// asks holds all calls at two words against the document's words.
func asks(t *testing.T, a, b api.Member) {
	t.Helper()
	if got, want := member.Over(a, b), plainOver(a, b); got != want {
		t.Errorf("over %+v, %+v: %v, not %v", a, b, got, want)
	}
	got, e := member.Merge(a, b)
	if want, we := plainMerge(a, b); got != want || e != we {
		t.Errorf("merge %+v, %+v: %+v, %v, not %+v, %v", a, b, got, e, want, we)
	}
	me, told, e := member.Refute(a, b)
	if want, wt, we := plainRefute(a, b); me != want || told != wt || e != we {
		t.Errorf("refute %+v, %+v: %+v, %v, %v, not %+v, %v, %v", a, b, me, told, e, want, wt, we)
	}
}

// The document's examples.
func TestExamples(t *testing.T) {
	for _, x := range []struct {
		a, b, want api.Member
		e          api.Errno
	}{
		{alive(3), suspect(3), suspect(3), api.OK},
		{alive(4), dead(3), alive(4), api.OK},
		{left(2), dead(2), left(2), api.OK},
		{alive(3), of(2, alive(3)), api.Member{}, api.ErrArg},
	} {
		if got, e := member.Merge(x.a, x.b); got != x.want || e != x.e {
			t.Errorf("merge %+v, %+v: %+v, %v", x.a, x.b, got, e)
		}
	}
	for _, x := range []struct {
		me, word, want api.Member
		told           bool
		e              api.Errno
	}{
		{alive(3), suspect(3), alive(4), true, api.OK},
		{alive(3), dead(2), alive(3), false, api.OK},
		{alive(3), alive(7), alive(7), false, api.OK},
		{suspect(1), dead(1), api.Member{}, false, api.ErrArg},
	} {
		if got, told, e := member.Refute(x.me, x.word); got != x.want || told != x.told || e != x.e {
			t.Errorf("refute %+v, %+v: %+v, %v, %v", x.me, x.word, got, told, e)
		}
	}
	if e := member.Check(api.Member{ID: 1, Status: 5}); e != api.ErrArg {
		t.Errorf("check of the status 5: %v", e)
	}
}

// P11.1: what may be: each bound from both sides, and numbers whose lower halves may be.
func TestCheck(t *testing.T) {
	for _, m := range edges() {
		want := api.OK
		if !plainMay(m) {
			want = api.ErrArg
		}
		if e := member.Check(m); e != want {
			t.Errorf("check %+v: %v, not %v", m, e, want)
		}
	}
	for id := 1; id <= 64; id++ {
		for status := 1; status <= 4; status++ {
			if e := member.Check(api.Member{ID: id, Status: status, Inc: id * status}); e != api.OK {
				t.Errorf("check %d, %d: %v", id, status, e)
			}
		}
	}
	if e := member.Check(api.Member{}); e != api.ErrArg {
		t.Errorf("check of nothing: %v", e)
	}
}

// P11.1: who is live goes by the status alone.
func TestLive(t *testing.T) {
	for _, m := range edges() {
		if got, want := member.Live(m), m.Status == 1 || m.Status == 2; got != want {
			t.Errorf("live %+v: %v", m, got)
		}
	}
	if !member.Live(alive(0)) || !member.Live(suspect(0)) || member.Live(dead(0)) || member.Live(left(0)) || member.Live(api.Member{}) {
		t.Error("live by status")
	}
}

// P11.1: over is who has the greater Inc, whatever the statuses; of the same Inc the later status; nobody is over himself, or about another node.
func TestOver(t *testing.T) {
	rising := []api.Member{
		alive(0), suspect(0), dead(0), left(0), alive(1), suspect(1), dead(1), left(1), alive(2),
		left(most - 1), alive(most), suspect(most), dead(most), left(most),
	}
	for i, a := range rising {
		for j, b := range rising {
			if got := member.Over(a, b); got != (i > j) {
				t.Errorf("over %+v, %+v: %v", a, b, got)
			}
			if member.Over(of(2, a), b) || member.Over(a, of(64, b)) || member.Over(of(65, a), of(65, b)) || member.Over(of(0, a), of(0, b)) {
				t.Errorf("over %+v, %+v of other nodes", a, b)
			}
			if got := member.Over(of(64, a), of(64, b)); got != (i > j) {
				t.Errorf("over %+v, %+v of 64: %v", a, b, got)
			}
		}
	}
	for _, wrong := range []api.Member{{ID: 1, Status: 5}, {ID: 1, Status: 0, Inc: 5}, {ID: 1, Status: 1, Inc: -1}, {ID: 1, Status: 1, Inc: most + 1}, {}} {
		if member.Over(wrong, alive(0)) || member.Over(alive(5), wrong) || member.Over(wrong, wrong) {
			t.Errorf("over with %+v", wrong)
		}
	}
}

// P11.1 to P11.3: all calls at all pairs of words at the bounds.
func TestPairs(t *testing.T) {
	l := edges()
	for _, a := range l {
		for _, b := range l {
			asks(t, a, b)
		}
	}
}

// P11.1 to P11.3: all calls at all pairs of words about three nodes, with small Incs.
func TestSmall(t *testing.T) {
	l := words([]int{1, 7, 64}, []int{1, 2, 3, 4}, []int{0, 1, 2, 3, 4, 5, 6})
	for _, a := range l {
		for _, b := range l {
			asks(t, a, b)
		}
	}
}

// P11.1 to P11.3: words by chance, some of which may not be.
func TestByChance(t *testing.T) {
	r := rand.New(rand.NewSource(11))
	draw := func() api.Member {
		return api.Member{ID: r.Intn(4) + 62, Status: r.Intn(6), Inc: r.Intn(1<<31) >> r.Intn(32)}
	}
	for range 200_000 {
		a, b := draw(), draw()
		asks(t, a, b)
		b.ID = a.ID
		asks(t, a, b)
		b.Inc = a.Inc + r.Intn(3) - 1
		asks(t, a, b)
		a.Status = 1
		asks(t, a, b)
	}
}

// P11.3: what a node answers to each status, of a lesser, the same, and a greater Inc, and at the last one.
func TestRefute(t *testing.T) {
	for _, x := range []struct {
		me, word, want api.Member
		told           bool
		e              api.Errno
	}{
		{alive(0), alive(0), alive(0), false, api.OK},
		{alive(5), alive(4), alive(5), false, api.OK},
		{alive(5), alive(6), alive(6), false, api.OK},
		{alive(5), alive(most), alive(most), false, api.OK},
		{alive(most), alive(most), alive(most), false, api.OK},
		{alive(0), suspect(0), alive(1), true, api.OK},
		{alive(0), dead(0), alive(1), true, api.OK},
		{alive(0), left(0), alive(1), true, api.OK},
		{alive(5), suspect(4), alive(5), false, api.OK},
		{alive(5), dead(4), alive(5), false, api.OK},
		{alive(5), left(4), alive(5), false, api.OK},
		{alive(5), suspect(9), alive(10), true, api.OK},
		{alive(5), dead(9), alive(10), true, api.OK},
		{alive(5), left(9), alive(10), true, api.OK},
		{alive(5), suspect(most - 1), alive(most), true, api.OK},
		{alive(most - 1), left(most - 1), alive(most), true, api.OK},
		{alive(most), dead(most - 1), alive(most), false, api.OK},
		{alive(5), suspect(most), api.Member{}, false, api.ErrRange},
		{alive(most), dead(most), api.Member{}, false, api.ErrRange},
		{alive(most), left(most), api.Member{}, false, api.ErrRange},
		{suspect(5), dead(most), api.Member{}, false, api.ErrArg},
		{dead(5), alive(6), api.Member{}, false, api.ErrArg},
		{left(5), suspect(5), api.Member{}, false, api.ErrArg},
		{alive(5), of(2, suspect(most)), api.Member{}, false, api.ErrArg},
		{alive(5), suspect(most + 1), api.Member{}, false, api.ErrArg},
		{alive(5), dead(-1), api.Member{}, false, api.ErrArg},
		{alive(-1), dead(most), api.Member{}, false, api.ErrArg},
		{of(65, alive(1)), of(65, dead(1)), api.Member{}, false, api.ErrArg},
		{of(64, alive(1)), of(64, dead(1)), of(64, alive(2)), true, api.OK},
	} {
		if got, told, e := member.Refute(x.me, x.word); got != x.want || told != x.told || e != x.e {
			t.Errorf("refute %+v, %+v: %+v, %v, %v", x.me, x.word, got, told, e)
		}
	}
}
