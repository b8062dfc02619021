package member_test

import (
	"math/rand"
	"testing"

	"chartulary/api"
	"chartulary/member"
)

// one tells words about one node, small ones and those at the last Inc.
func one() []api.Member {
	return words([]int{9}, []int{1, 2, 3, 4}, []int{0, 1, 2, most - 1, most})
}

// merged tells the word that is left of two that may be merged.
func merged(t *testing.T, a, b api.Member) api.Member {
	t.Helper()
	m, e := member.Merge(a, b)
	if e != api.OK {
		t.Fatalf("merge %+v, %+v: %v", a, b, e)
	}
	return m
}

// row tells what is left of words that are merged one behind the other.
func row(t *testing.T, l []api.Member) api.Member {
	t.Helper()
	m := l[0]
	for _, x := range l {
		m = merged(t, m, x)
	}
	return m
}

// grouped tells what is left of words that are merged in groups by chance.
func grouped(t *testing.T, r *rand.Rand, l []api.Member) api.Member {
	t.Helper()
	if len(l) == 1 {
		return l[0]
	}
	at := 1 + r.Intn(len(l)-1)
	return merged(t, grouped(t, r, l[:at]), grouped(t, r, l[at:]))
}

// P11.4: Merge is associative, commutative and idempotent; what is left is one of the two, and neither is over it.
func TestMergeLaws(t *testing.T) {
	for _, a := range one() {
		if merged(t, a, a) != a {
			t.Errorf("merged with itself: %+v", a)
		}
		for _, b := range one() {
			m := merged(t, a, b)
			if m != merged(t, b, a) || (m != a && m != b) || member.Over(a, m) || member.Over(b, m) {
				t.Errorf("merge %+v, %+v: %+v", a, b, m)
			}
			for _, c := range one() {
				if merged(t, m, c) != merged(t, a, merged(t, b, c)) {
					t.Errorf("merge %+v, %+v, %+v by groups", a, b, c)
				}
			}
		}
	}
}

// P11.4: of two unlike words about one node just one is over the other one, and over what that one is over.
func TestOverIsAnOrder(t *testing.T) {
	for _, a := range one() {
		for _, b := range one() {
			n := 0
			for _, is := range []bool{a == b, member.Over(a, b), member.Over(b, a)} {
				if is {
					n++
				}
			}
			if n != 1 {
				t.Errorf("%+v, %+v: %d of three", a, b, n)
			}
			for _, c := range one() {
				if member.Over(a, b) && member.Over(b, c) && !member.Over(a, c) {
					t.Errorf("%+v over %+v over %+v", a, b, c)
				}
			}
		}
	}
}

// P11.4: whoever merges the same words, in whatever order, groups, and however often, has the same one left.
func TestMergedAnyhow(t *testing.T) {
	r := rand.New(rand.NewSource(114))
	for range 5000 {
		l := make([]api.Member, 1+r.Intn(9))
		for i := range l {
			l[i] = api.Member{ID: 33, Status: 1 + r.Intn(4), Inc: r.Intn(4)}
		}
		want := row(t, l)
		for range 5 {
			for range r.Intn(4) {
				l = append(l, l[r.Intn(len(l))])
			}
			r.Shuffle(len(l), func(i, j int) { l[i], l[j] = l[j], l[i] })
			if got := row(t, l); got != want {
				t.Fatalf("of %+v: %+v, not %+v", l, got, want)
			}
			if got := grouped(t, r, l); got != want {
				t.Fatalf("of %+v by groups: %+v, not %+v", l, got, want)
			}
		}
	}
}

// P11.4: what has to be told is over the word, and over me; what has not, is one of the two; neither is over what is answered, which nothing is left to say against.
func TestRefuteIsOver(t *testing.T) {
	for _, me := range one() {
		for _, word := range one() {
			got, told, e := member.Refute(me, word)
			if e != api.OK {
				if told || got != (api.Member{}) {
					t.Errorf("refute %+v, %+v: %+v, %v beside %v", me, word, got, told, e)
				}
				continue
			}
			if told && (!member.Over(got, word) || !member.Over(got, me)) {
				t.Errorf("refute %+v, %+v: %+v is not over", me, word, got)
			}
			if member.Over(word, got) || member.Over(me, got) || got.Status != api.Alive || member.Check(got) != api.OK {
				t.Errorf("refute %+v, %+v: %+v", me, word, got)
			}
			if !told && got != me && got != word {
				t.Errorf("refute %+v, %+v: %+v, and not told", me, word, got)
			}
			if again, told, e := member.Refute(got, word); again != got || told || e != api.OK {
				t.Errorf("refute %+v, %+v once more: %+v, %v, %v", me, word, again, told, e)
			}
		}
	}
}
