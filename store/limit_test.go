package store_test

import (
	"fmt"
	"strings"
	"testing"

	"chartulary/api"
	"chartulary/disk"
	"chartulary/fact"
	"chartulary/store"
)

// bound is one of the things of which a state has at most so many: the fact by which the one of a number is there, and how many there are.
type bound struct {
	name  string
	most  int
	next  func(n int) api.Fact
	count func(s api.State) int
	// Behind the first facts the others do something; the last ones take the one of the number 0 away, if that can be.
	first, last []api.Fact
}

func bounds() []bound {
	return []bound{
		{name: "blobs", most: 1000, next: func(n int) api.Fact { return blob(fmt.Sprint(n)) }, count: func(s api.State) int { return len(s.Blobs) },
			first: nil, last: []api.Fact{keep(1, "0"), drop(1)}},
		{name: "hints", most: 1000, next: func(n int) api.Fact { return hint(1+n%64, 1+n/64, "a") }, count: func(s api.State) int { return len(s.Hints) },
			first: []api.Fact{blob("a"), keep(9999, "a")}, last: []api.Fact{done(1, 1, "a")}},
		{name: "votes by a Promise", most: 64, next: func(n int) api.Fact { return promise(n*n+1, 3, 3) }, count: func(s api.State) int { return len(s.Votes) }},
		{name: "votes by an Accept", most: 64, next: func(n int) api.Fact { return accept(api.MaxSet-n, 3, 3, "v") }, count: func(s api.State) int { return len(s.Votes) }},
		{name: "decisions", most: 64, next: func(n int) api.Fact { return decide(n+1, "v") }, count: func(s api.State) int { return len(s.Decisions) }},
	}
}

// facts tells the facts of so many things, from the number from on.
func (b bound) facts(from, to int) []api.Fact {
	var l []api.Fact
	for n := from; n < to; n++ {
		l = append(l, b.next(n))
	}
	return l
}

// cut tells facts in rows, each of so many as a record has surely room for.
func cut(l []api.Fact) [][]api.Fact {
	var out [][]api.Fact
	for len(l) > 50 {
		out, l = append(out, l[:50]), l[50:]
	}
	return append(out, l)
}

// padded tells facts whose record would have so many bytes: f, and a Decide of a set that has one, or may.
func padded(t *testing.T, size int, f api.Fact) []api.Fact {
	t.Helper()
	first, _ := bytesOf(f)
	for n := range 4000 {
		pad := decide(1, strings.Repeat("p", n))
		if last, _ := bytesOf(pad); len(row(first, last)) == size {
			return []api.Fact{pad, f}
		}
	}
	t.Fatalf("no facts of %d bytes", size)
	return nil
}

// laid tells a great disk with a log of these facts, laid without a store.
func laid(t *testing.T, l []api.Fact) *disk.Disk {
	t.Helper()
	d, _ := disk.New(api.MaxDisk)
	if e := d.Append([]byte(log(cut(l)...))); e != api.OK {
		t.Fatal(e)
	}
	return d
}

// asks asks that an Add is answered so, that the state behind it is that of l, and is so, opened again, and whether the log is longer.
func asks(t *testing.T, what string, d *disk.Disk, s *store.Store, want api.Errno, l []api.Fact, add ...api.Fact) []api.Fact {
	t.Helper()
	size := d.Len()
	if e := s.Add(add); e != want {
		t.Fatalf("%s: %v, not %v", what, e, want)
	}
	if want == api.OK {
		l = append(l[:len(l):len(l)], add...)
	}
	if (d.Len() > size) != (want == api.OK) || !fact.Same(s.State(), folded(l)) {
		t.Fatalf("%s: %v, %d bytes behind %d", what, want, d.Len(), size)
	}
	twin, e := store.Open(d)
	if e != api.OK || !fact.Same(twin.State(), s.State()) {
		t.Fatalf("%s: opened again: %v", what, e)
	}
	return l
}

// P10.2: up to each bound facts are added, above it they are ErrFull; what is there once more, or goes again within the same Add, is not above it.
func TestFull(t *testing.T) {
	for _, b := range bounds() {
		l := append(b.first[:len(b.first):len(b.first)], b.facts(0, b.most-2)...)
		d := laid(t, l)
		s, e := store.Open(d)
		if e != api.OK {
			t.Fatal(e)
		}
		is := func(want api.Errno, add ...api.Fact) {
			t.Helper()
			l = asks(t, b.name, d, s, want, l, add...)
		}
		is(api.ErrFull, b.facts(b.most-2, b.most+1)...)
		is(api.OK, b.next(b.most-2))
		if s.Sync() != api.OK {
			t.Fatal("sync")
		}
		is(api.ErrFull, b.facts(b.most-1, b.most+1)...)
		if s.Loose() {
			t.Fatalf("%s: loose", b.name)
		}
		is(api.OK, b.next(b.most-1))
		if b.count(s.State()) != b.most {
			t.Fatalf("%s: %d", b.name, b.count(s.State()))
		}
		is(api.ErrFull, b.next(b.most))
		// A record that is too long comes ahead of a state that is too great.
		is(api.ErrFull, padded(t, 4000, b.next(b.most))...)
		is(api.ErrLong, padded(t, 4001, b.next(b.most))...)
		is(api.ErrFull, born(), b.next(b.most), boot(8))
		is(api.OK, born(), b.next(b.most-1), b.next(0), boot(7))
		if b.last != nil {
			is(api.OK, append([]api.Fact{b.next(b.most)}, b.last...)...)
			is(api.ErrFull, append(append([]api.Fact{b.next(b.most + 1)}, b.last...), b.next(b.most+2))...)
		}
		// No room, and a disk that is out, come behind a state that is too great.
		d.Room(0)
		is(api.ErrFull, b.next(b.most+1))
		d.Fuse(0)
		if s.Sync() != api.ErrBroken || s.Add([]api.Fact{b.next(b.most + 1)}) != api.ErrFull || s.Add([]api.Fact{b.next(5)}) != api.ErrBroken {
			t.Fatalf("%s: of a disk that is out", b.name)
		}
	}
}

// P10.2: keeps have no bound but the disk's.
func TestKeepsAreMany(t *testing.T) {
	l := []api.Fact{blob("a")}
	for n := range 3000 {
		l = append(l, keep(n+1, "a"))
	}
	d, _ := disk.New(api.MaxDisk)
	s, _ := store.Open(d)
	for _, some := range cut(l) {
		if e := s.Add(some); e != api.OK {
			t.Fatal(e)
		}
	}
	if n := len(s.State().Keeps); n != 3000 {
		t.Fatalf("%d keeps", n)
	}
	asks(t, "keeps", d, s, api.OK, l, keep(5000, "a"))
}

// P10.1, P10.2: a state that is too great already is opened, and compacted, and goes on: what is added may make it greater still, by whatever bound.
func TestTooGreat(t *testing.T) {
	all := bounds()
	for i, b := range all {
		l := append(b.first[:len(b.first):len(b.first)], b.facts(0, b.most+1)...)
		d := laid(t, l)
		s, e := store.Open(d)
		if e != api.OK || b.count(s.State()) != b.most+1 {
			t.Fatalf("%s: %v", b.name, e)
		}
		is := func(want api.Errno, add ...api.Fact) {
			t.Helper()
			l = asks(t, b.name, d, s, want, l, add...)
		}
		is(api.OK, born())
		is(api.OK, b.next(b.most+1))
		other := all[(i+1)%len(all)]
		if other.most == 64 {
			is(api.OK, other.facts(0, 65)...)
		}
		was := s.State()
		if s.Compact() != api.OK || !fact.Same(s.State(), was) {
			t.Fatalf("%s: compacted", b.name)
		}
		is(api.OK, boot(3))
	}
}

// P10.2: from too great back to what may be, and then no further.
func TestTooGreatNoMore(t *testing.T) {
	b := bounds()[1]
	l := append(b.first[:len(b.first):len(b.first)], b.facts(0, 1002)...)
	d := laid(t, l)
	s, _ := store.Open(d)
	is := func(want api.Errno, add ...api.Fact) {
		t.Helper()
		l = asks(t, "hints", d, s, want, l, add...)
	}
	is(api.OK, done(1, 1, "a"))
	is(api.OK, hint(1, 1, "a"))
	is(api.OK, done(1, 1, "a"), done(2, 1, "a"))
	is(api.ErrFull, hint(1, 1, "a"))
	is(api.OK, done(3, 1, "a"))
	is(api.OK, hint(1, 1, "a"))
	is(api.ErrFull, hint(2, 1, "a"))
}

// P10.1 to P10.3: a great disk, nearly full of facts of all kinds, and compacted.
func TestGreat(t *testing.T) {
	d, _ := disk.New(api.MaxDisk)
	s, _ := store.Open(d)
	var l []api.Fact
	add := func(some ...api.Fact) {
		t.Helper()
		if e := s.Add(some); e != api.OK {
			t.Fatal(e)
		}
		l = append(l, some...)
	}
	add(born(), boot(4))
	for n := range 900 {
		b := fmt.Sprintf("%0400d", n)
		add(blob(b), keep(1+n%20, b), hint(1+n%64, 1+n%20, b))
	}
	for n := range 64 {
		add(promise(n+1, 2, 2), accept(n+1, 2, 2, fmt.Sprintf("%0100d", n)), decide(n+1, "v"))
	}
	if e := s.Sync(); e != api.OK {
		t.Fatal(e)
	}
	for n := range 10 {
		add(drop(n + 1))
	}
	size := d.Len()
	if e := s.Compact(); e != api.OK || d.Len() >= size || d.Firm() != d.Len() {
		t.Fatalf("%v, %d bytes, %d firm", e, d.Len(), d.Firm())
	}
	d.Crash(0)
	twin, e := store.Open(d)
	want := folded(l)
	if e != api.OK || !fact.Same(s.State(), want) || !fact.Same(twin.State(), want) || len(want.Blobs) != 450 || len(want.Hints) != 450 {
		t.Fatalf("%v, %d blobs", e, len(want.Blobs))
	}
}
