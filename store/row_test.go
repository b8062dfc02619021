package store_test

import (
	"fmt"
	"math"
	"math/rand"
	"slices"
	"strings"
	"testing"

	"chartulary/api"
	"chartulary/disk"
	"chartulary/fact"
	"chartulary/store"
)

// P10.1 to P10.4: all rows of five acts, against the document's words.
func TestAllShortRows(t *testing.T) {
	acts := []act{adds(born(), blob("a")), adds(boot(3)), adds(), syncs(), compacts(), crashes(0), crashes(14), fuses(0), fuses(1), rooms(40), opens()}
	rows := 1
	for range 5 {
		rows *= len(acts)
	}
	for row := range rows {
		x := begin(t, 70)
		x.do(t, opens())
		for left, n := row, 0; n < 5; left, n = left/len(acts), n+1 {
			x.do(t, acts[left%len(acts)])
		}
		if row%5 == 0 {
			x.do(t, crashes(row%25), opens())
			if x.p.opened {
				x.again(t)
			}
		}
	}
}

// chosen tells a fact by chance, of few sets and blobs, so that facts meet.
func chosen(r *rand.Rand) api.Fact {
	set, home, b := 1+r.Intn(3), 1+r.Intn(2), strings.Repeat(string(rune('a'+r.Intn(3))), 1+r.Intn(2))
	switch r.Intn(13) {
	case 0:
		return born()
	case 1:
		return boot(1 + r.Intn(99))
	case 2, 3, 4:
		return blob(b)
	case 5, 6:
		return keep(set, b)
	case 7, 8:
		return hint(home, set, b)
	case 9:
		return done(home, set, b)
	case 10:
		return promise(set, 1+r.Intn(5), 1+r.Intn(3))
	case 11:
		return accept(set, 1+r.Intn(5), 1+r.Intn(3), b)
	}
	return []api.Fact{decide(set, b), drop(set)}[r.Intn(2)]
}

// some tells facts by chance, one of which may not be, now and then.
func some(r *rand.Rand) []api.Fact {
	var l []api.Fact
	for range r.Intn(5) {
		l = append(l, chosen(r))
	}
	if r.Intn(20) == 0 {
		bad := wrong()
		l = append(l, bad[r.Intn(len(bad))])
	}
	return l
}

// acts tells an act by chance.
func acts(r *rand.Rand) act {
	switch r.Intn(14) {
	case 0, 1, 2, 3, 4, 5, 6:
		return adds(some(r)...)
	case 7, 8:
		return syncs()
	case 9:
		return compacts()
	case 10:
		return fuses(r.Intn(9))
	case 11:
		return crashes(r.Intn(300))
	case 12:
		return rooms(r.Intn(3000))
	}
	bad := none()
	return []act{opens(), crashes(math.MaxInt), hardens(), lays("torn"), lays(framed("\x00")), lays(framed(bad[r.Intn(len(bad))])), lays(log([]api.Fact{chosen(r), chosen(r)}))}[r.Intn(7)]
}

// P10.1 to P10.4: long rows of acts by chance, each store opened anew behind a crash and where bytes came under it.
func TestLongRows(t *testing.T) {
	for seed := range 300 {
		r := rand.New(rand.NewSource(int64(seed)))
		x := begin(t, 2500)
		x.do(t, opens())
		for range 120 {
			a := acts(r)
			x.do(t, a)
			if strings.HasPrefix(a.name, "Crash") || strings.HasPrefix(a.name, "disk.") || r.Intn(20) == 0 {
				x.do(t, opens())
				if x.p.opened {
					x.again(t)
				}
			}
			if x.p.out && r.Intn(2) == 0 {
				x.do(t, crashes(r.Intn(60)), opens())
			}
			if !x.p.opened && !x.p.out && r.Intn(4) == 0 {
				x = begin(t, 2500)
				x.do(t, opens())
			}
		}
	}
}

// story is what a store's own answers say of what a crash may leave: facts that are firm, then what each Add added behind them, the last one perhaps under way.
type story struct {
	firm []api.Fact
	adds [][]api.Fact
}

// lives does an act by chance at a store, and takes its answer into the story.
func (s *story) lives(t *testing.T, r *rand.Rand, x *store.Store) {
	t.Helper()
	was := x.State()
	switch r.Intn(6) {
	case 0, 1, 2, 3:
		l := some(r)
		switch e := x.Add(l); e {
		case api.OK, api.ErrBroken:
			s.adds = append(s.adds, l)
			if e == api.OK {
				return
			}
		}
	case 4:
		if x.Sync() == api.OK {
			s.hardens()
		}
	case 5:
		if x.Compact() == api.OK {
			s.hardens()
		}
	}
	if !fact.Same(x.State(), was) {
		t.Fatalf("%+v, not %+v", x.State(), was)
	}
}

// hardens takes all that was added as firm.
func (s *story) hardens() {
	s.firm, s.adds = append(s.firm, slices.Concat(s.adds...)...), nil
}

// left tells behind how many of the Adds a state is found; -1, if behind none.
func (s *story) left(got api.State) int {
	facts := slices.Clone(s.firm)
	for n := range len(s.adds) + 1 {
		if fact.Same(got, folded(facts)) {
			return n
		}
		if n < len(s.adds) {
			facts = append(facts, s.adds[n]...)
		}
	}
	return -1
}

// P10.4: wherever a fuse burns, and whatever a crash keeps, what is opened behind it has the state of all that was firm, and of some first Adds behind that, each as a whole; and it goes on from there.
func TestFirmOutlivesCrashes(t *testing.T) {
	for seed := range 20 {
		for fuse := range 14 {
			for kept := 0; kept < 200; kept += 11 {
				r := rand.New(rand.NewSource(int64(seed)))
				d, _ := disk.New(3000)
				x, e := store.Open(d)
				var s story
				for round := range 3 {
					d.Fuse(fuse + round)
					for n := 0; n < 9 && d.Up(); n++ {
						s.lives(t, r, x)
					}
					d.Crash(kept)
					if x, e = store.Open(d); e != api.OK {
						t.Fatalf("seed %d, fuse %d, kept %d: %v", seed, fuse, kept, e)
					}
					got := x.State()
					n := s.left(got)
					if n < 0 || kept == 0 && !fact.Same(got, folded(s.firm)) || x.Loose() {
						t.Fatalf("seed %d, fuse %d, kept %d: %+v, of %s and %d Adds", seed, fuse, kept, got, name(s.firm), len(s.adds))
					}
					s = story{firm: append(s.firm, slices.Concat(s.adds[:n]...)...)}
				}
			}
		}
	}
}

// P10.4: an Add is there as a whole or not, wherever its bytes are cut; the Adds ahead of it are.
func TestAllOrNone(t *testing.T) {
	l := each()
	x := begin(t, 3000)
	x.do(t, opens(), adds(l[:2]...), syncs(), adds(l[2:6]...), adds(l[6:]...))
	ends := []int{x.d.Firm(), x.d.Firm() + len(log(l[2:6])), x.d.Len()}
	for kept := range x.d.Len() - x.d.Firm() + 2 {
		d := x.d.Copy()
		d.Crash(kept)
		s, e := store.Open(d)
		want := l[:2]
		if x.d.Firm()+kept >= ends[1] {
			want = l[:6]
		}
		if x.d.Firm()+kept >= ends[2] {
			want = l
		}
		if e != api.OK || !fact.Same(s.State(), folded(want)) || s.Loose() {
			t.Fatalf("%d kept: %v, %+v", kept, e, s.State())
		}
	}
}

// Rule 3, P10.4: what is refused has changed nothing: a store behind it goes on as one of which it was never asked.
func TestRefusedChangesNothing(t *testing.T) {
	long := decide(1, strings.Repeat("l", 4000))
	many := make([]api.Fact, 65)
	for i := range many {
		many[i] = promise(i+100, 1, 1)
	}
	refused := []act{adds(), adds(api.Fact{}), adds(boot(50), keep(0, "a")), adds(boot(60), long), adds(append(many, boot(70))...), adds(boot(80), blob(strings.Repeat("full", 200)))}
	for seed := range 100 {
		r := rand.New(rand.NewSource(int64(seed)))
		x, y := begin(t, 600), begin(t, 600)
		x.do(t, opens())
		y.do(t, opens())
		for range 40 {
			a := []act{adds(boot(1 + r.Intn(9))), adds(blob("a"), keep(1, "a")), syncs(), compacts(), fuses(r.Intn(9)), opens()}[r.Intn(6)]
			for range r.Intn(3) {
				y.do(t, refused[r.Intn(len(refused))])
			}
			x.do(t, a)
			y.do(t, a)
			if fmt.Sprint(x.p) != fmt.Sprint(y.p) {
				t.Fatalf("%s: %+v, not %+v", y.row(), y.p, x.p)
			}
			if x.p.out {
				kept := r.Intn(60)
				x.do(t, crashes(kept), opens())
				y.do(t, crashes(kept), opens())
			}
		}
	}
}
