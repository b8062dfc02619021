package fact_test

import (
	"bytes"
	"crypto/sha256"
	"fmt"
	"math"
	"math/rand"
	"slices"
	"strings"
	"testing"

	"chartulary/api"
	"chartulary/fact"
)

// A fact of each kind, by what it names.
func born() api.Fact                  { return api.Fact{Kind: api.FactBorn} }
func boot(n int) api.Fact             { return api.Fact{Kind: api.FactBoot, Set: n} }
func blob(b string) api.Fact          { return api.Fact{Kind: api.FactBlob, ID: idOf(b), Data: []byte(b)} }
func keep(set int, b string) api.Fact { return api.Fact{Kind: api.FactKeep, Set: set, ID: idOf(b)} }
func drop(set int) api.Fact           { return api.Fact{Kind: api.FactDrop, Set: set} }
func decide(set int, b string) api.Fact {
	return api.Fact{Kind: api.FactDecide, Set: set, Data: []byte(b)}
}
func hint(home, set int, b string) api.Fact {
	return api.Fact{Kind: api.FactHint, Home: home, Set: set, ID: idOf(b)}
}
func done(home, set int, b string) api.Fact {
	return api.Fact{Kind: api.FactDone, Home: home, Set: set, ID: idOf(b)}
}
func promise(set, n, node int) api.Fact {
	return api.Fact{Kind: api.FactPromise, Set: set, Ballot: api.Ballot{N: n, Node: node}}
}
func accept(set, n, node int, b string) api.Fact {
	return api.Fact{Kind: api.FactAccept, Set: set, Ballot: api.Ballot{N: n, Node: node}, Data: []byte(b)}
}

// idOf tells the digest of a text, not by the project's own.
func idOf(b string) api.ID { return sha256.Sum256([]byte(b)) }

// text tells a fact for a list of them.
func text(f api.Fact) string {
	name := [api.Facts]string{"none", "Born", "Boot", "Blob", "Keep", "Hint", "Done", "Promise", "Accept", "Decide", "Drop"}
	what := fmt.Sprint("kind ", f.Kind)
	if f.Kind > 0 && f.Kind < api.Facts {
		what = name[f.Kind]
	}
	b := fmt.Sprintf("%q", f.Data)
	if len(f.Data) > 20 {
		b = fmt.Sprintf("%q.. of %d bytes", f.Data[:20], len(f.Data))
	}
	return fmt.Sprintf("%s(set %d, home %d, ballot %v, id %x.., %s)", what, f.Set, f.Home, f.Ballot, f.ID[:2], b)
}

func texts(l []api.Fact) string {
	var out []string
	for _, f := range l {
		out = append(out, text(f))
	}
	return strings.Join(out, "\n")
}

// sameFact tells whether two facts are the same; data that is nil is as empty one.
func sameFact(a, b api.Fact) bool {
	return a.Kind == b.Kind && a.Set == b.Set && a.Home == b.Home && a.Ballot == b.Ballot && a.ID == b.ID && bytes.Equal(a.Data, b.Data)
}

// asFact tells a text of all of a fact, asState one of all of a state: the same for the same ones alone.
func asFact(f api.Fact) string { f.Data = asData(f.Data); return fmt.Sprintf("%#v", f) }

func asState(s api.State) string {
	var out strings.Builder
	fmt.Fprintln(&out, s.Born, s.Boot)
	for _, x := range s.Blobs {
		fmt.Fprintf(&out, "blob %x %q\n", x.ID, x.Data)
	}
	for _, x := range s.Keeps {
		fmt.Fprintf(&out, "keep %d %x\n", x.Set, x.ID)
	}
	for _, x := range s.Hints {
		fmt.Fprintf(&out, "hint %d %d %x\n", x.Home, x.Set, x.ID)
	}
	for _, x := range s.Votes {
		fmt.Fprintf(&out, "vote %d %v %v %q\n", x.Set, x.Promise, x.Accepted, x.Data)
	}
	for _, x := range s.Decisions {
		fmt.Fprintf(&out, "decision %d %q\n", x.Set, x.Data)
	}
	return out.String()
}

// asData has data that is nil as empty one.
func asData(b []byte) []byte { return append([]byte{}, b...) }

// of is what of which set.
type of struct {
	set int
	id  api.ID
}

// lack is which home lacks what.
type lack struct {
	home int
	of
}

// plainVote is a set's vote.
type plainVote struct {
	promise, accepted api.Ballot
	data              string
}

// plain is a state as the document's words say: what is there, without order.
type plain struct {
	born   bool
	boot   int
	blobs  map[api.ID]string
	keeps  map[of]bool
	hints  map[lack]bool
	votes  map[int]plainVote
	closed map[int]string
}

func first() plain {
	return plain{blobs: map[api.ID]string{}, keeps: map[of]bool{}, hints: map[lack]bool{}, votes: map[int]plainVote{}, closed: map[int]string{}}
}

// less tells the order of ballots.
func less(a, b api.Ballot) bool { return a.N < b.N || a.N == b.N && a.Node < b.Node }

// does does a fact.
func (p *plain) does(f api.Fact) {
	_, there := p.blobs[f.ID]
	v, what := p.votes[f.Set], of{f.Set, f.ID}
	switch f.Kind {
	case api.FactBorn:
		p.born = true
	case api.FactBoot:
		if f.Set > p.boot {
			p.boot = f.Set
		}
	case api.FactBlob:
		p.blobs[f.ID] = string(f.Data)
	case api.FactKeep:
		if there {
			p.keeps[what] = true
		}
	case api.FactHint:
		if there {
			p.hints[lack{f.Home, what}] = true
		}
	case api.FactDone:
		if p.hints[lack{f.Home, what}] {
			delete(p.hints, lack{f.Home, what})
			p.goes(f.ID)
		}
	case api.FactPromise:
		if less(v.promise, f.Ballot) {
			v.promise = f.Ballot
			p.votes[f.Set] = v
		}
	case api.FactAccept:
		if !less(f.Ballot, v.promise) {
			p.votes[f.Set] = plainVote{f.Ballot, f.Ballot, string(f.Data)}
		}
	case api.FactDecide:
		if _, is := p.closed[f.Set]; !is {
			p.closed[f.Set] = string(f.Data)
		}
	case api.FactDrop:
		p.drops(f.Set)
	}
}

// drops takes all of a set away that is kept, or lacked.
func (p *plain) drops(set int) {
	var from []api.ID
	for x := range p.keeps {
		if x.set == set {
			from = append(from, x.id)
			delete(p.keeps, x)
		}
	}
	for x := range p.hints {
		if x.set == set {
			from = append(from, x.id)
			delete(p.hints, x)
		}
	}
	for _, id := range from {
		p.goes(id)
	}
}

// goes takes a blob away that nobody keeps or lacks any more.
func (p *plain) goes(id api.ID) {
	for x := range p.keeps {
		if x.id == id {
			return
		}
	}
	for x := range p.hints {
		if x.id == id {
			return
		}
	}
	delete(p.blobs, id)
}

// state tells all of it in lists that rise.
func (p *plain) state() api.State {
	s := api.State{Born: p.born, Boot: p.boot}
	for id, b := range p.blobs {
		s.Blobs = append(s.Blobs, api.Blob{ID: id, Data: []byte(b)})
	}
	for x := range p.keeps {
		s.Keeps = append(s.Keeps, api.Keep{Set: x.set, ID: x.id})
	}
	for x := range p.hints {
		s.Hints = append(s.Hints, api.Hint{Home: x.home, Set: x.set, ID: x.id})
	}
	for set, v := range p.votes {
		s.Votes = append(s.Votes, api.Vote{Set: set, Promise: v.promise, Accepted: v.accepted, Data: []byte(v.data)})
	}
	for set, b := range p.closed {
		s.Decisions = append(s.Decisions, api.Decision{Set: set, Data: []byte(b)})
	}
	slices.SortFunc(s.Blobs, func(x, y api.Blob) int { return bytes.Compare(x.ID[:], y.ID[:]) })
	// As texts of one length numbers and ids are in their own order.
	slices.SortFunc(s.Keeps, func(x, y api.Keep) int {
		return strings.Compare(fmt.Sprintf("%012d %x", x.Set, x.ID), fmt.Sprintf("%012d %x", y.Set, y.ID))
	})
	slices.SortFunc(s.Hints, func(x, y api.Hint) int {
		return strings.Compare(fmt.Sprintf("%012d %012d %x", x.Home, x.Set, x.ID), fmt.Sprintf("%012d %012d %x", y.Home, y.Set, y.ID))
	})
	slices.SortFunc(s.Votes, func(x, y api.Vote) int { return x.Set - y.Set })
	slices.SortFunc(s.Decisions, func(x, y api.Decision) int { return x.Set - y.Set })
	return s
}

// folded tells the state of facts that all may be.
func folded(t *testing.T, l ...api.Fact) api.State {
	t.Helper()
	s, e := fact.Fold(l)
	if e != api.OK {
		t.Fatalf("fold\n%s\n%v", texts(l), e)
	}
	return s
}

// words tells the state of facts by the document's words.
func words(l ...api.Fact) api.State {
	p := first()
	for _, f := range l {
		p.does(f)
	}
	return p.state()
}

// is asks that a state is what it should be.
func is(t *testing.T, what string, got, want api.State) {
	t.Helper()
	if asState(got) != asState(want) || !fact.Same(got, want) || !fact.Same(want, got) {
		t.Fatalf("%s:\n%snot\n%s", what, asState(got), asState(want))
	}
}

// The document's examples.
func TestExamples(t *testing.T) {
	x := "\x01\x02"
	for _, c := range []struct {
		f    api.Fact
		want []byte
	}{{born(), []byte{1}}, {promise(3, 5, 2), []byte{7, 3, 5, 2}}} {
		if b, e := fact.Put(c.f); e != api.OK || !bytes.Equal(b, c.want) {
			t.Errorf("put %s: %v, %v", text(c.f), b, e)
		}
	}
	if f, fault := fact.Get([]byte{1}); fault != (api.Fault{}) || !sameFact(f, born()) {
		t.Errorf("get 1: %s, %v", text(f), fault)
	}
	if _, fault := fact.Get([]byte{11}); fault != (api.Fault{Err: api.ErrArg}) {
		t.Errorf("get 11: %v", fault)
	}
	if _, fault := fact.Get([]byte{1, 0}); fault != (api.Fault{Err: api.ErrBytes, At: 1}) {
		t.Errorf("get 1 0: %v", fault)
	}
	for _, c := range []struct {
		l                   []api.Fact
		blobs, keeps, hints int
	}{
		{[]api.Fact{blob(x), keep(4, x), hint(2, 4, x)}, 1, 1, 1},
		{[]api.Fact{blob(x), keep(4, x), hint(2, 4, x), drop(4)}, 0, 0, 0},
		{[]api.Fact{blob(x), hint(2, 4, x), done(2, 4, x)}, 0, 0, 0},
		{[]api.Fact{blob(x), keep(4, x), hint(2, 4, x), done(2, 4, x)}, 1, 1, 0},
		{[]api.Fact{blob(x), hint(2, 4, x), done(2, 5, x)}, 1, 0, 1},
	} {
		if s := folded(t, c.l...); len(s.Blobs) != c.blobs || len(s.Keeps) != c.keeps || len(s.Hints) != c.hints {
			t.Errorf("%s\n%s", texts(c.l), asState(s))
		}
	}
	if v := folded(t, promise(3, 5, 2), accept(3, 5, 1, "9")).Votes[0]; v.Accepted != (api.Ballot{}) {
		t.Errorf("accepted %v", v.Accepted)
	}
	if v := folded(t, promise(3, 5, 2), accept(3, 6, 1, "9"), promise(3, 4, 4)).Votes[0]; v.Promise != (api.Ballot{N: 6, Node: 1}) {
		t.Errorf("promise %v", v.Promise)
	}
}

// long tells a text of so many bytes.
func long(n int) string { return strings.Repeat("x", n) }

// each is a fact of each kind, in their order, and its bytes.
func each() ([]api.Fact, [][]byte) {
	x := idOf("ab")
	return []api.Fact{born(), boot(300), blob("ab"), keep(5, "ab"), hint(64, 128, "ab"), done(1, 5, "ab"), promise(3, 200, 9), accept(1, 2, 3, "cd"), decide(127, "e"), drop(128)},
		[][]byte{{1}, {2, 172, 2}, {3, 2, 'a', 'b'}, append([]byte{4, 5}, x[:]...), append([]byte{5, 64, 128, 1}, x[:]...), append([]byte{6, 1, 5}, x[:]...),
			{7, 3, 200, 1, 9}, {8, 1, 2, 3, 2, 'c', 'd'}, {9, 127, 1, 'e'}, {10, 128, 1}}
}

// good are facts of all kinds that may be, at the edges too.
func good() []api.Fact {
	l, _ := each()
	zero := api.Fact{Kind: api.FactKeep, Set: 1}
	empty := api.Fact{Kind: api.FactDecide, Set: 1}
	return append(l, zero, empty,
		api.Fact{Kind: api.FactBorn, Data: []byte{}}, boot(1), boot(api.MaxSet),
		blob(""), blob(long(1024)), blob("\x00"), keep(1, ""), keep(api.MaxSet, ""),
		hint(1, 1, ""), hint(64, api.MaxSet, ""), done(64, api.MaxSet, ""), done(1, 1, ""),
		promise(1, 1, 1), promise(api.MaxSet, api.MaxSet, 64), accept(1, 1, 1, ""), accept(api.MaxSet, api.MaxSet, 64, long(4000)),
		decide(1, ""), decide(api.MaxSet, long(4000)), drop(1), drop(api.MaxSet))
}

// bad are facts of all kinds that may not be.
func bad() []api.Fact {
	var l []api.Fact
	kinds, _ := each()
	for _, kind := range []int{math.MinInt, -1, 0, 11, 12, 256, 257, math.MaxInt} {
		l = append(l, api.Fact{Kind: kind}, api.Fact{Kind: kind, Set: 1}, api.Fact{Kind: kind, Set: 1, ID: idOf(""), Home: 1, Ballot: api.Ballot{N: 1, Node: 1}})
	}
	// What each kind names: its set, home, ballot, id and data.
	names := []string{"", "", "s", "ix", "si", "hsi", "hsi", "sb", "sbx", "sx", "s"}
	for _, f := range kinds {
		names := names[f.Kind]
		// Numbers beyond their bounds, where the kind names them; and any but 0, where it does not.
		wrong := func(letter string, top int, change func(*api.Fact, int)) {
			named := strings.Contains(names, letter)
			for _, n := range []int{math.MinInt, -1, 0, 1, 5, top, top + 1, 1 << 32, 1<<32 + 1, math.MaxInt} {
				if named && 1 <= n && n <= top || !named && n == 0 {
					continue
				}
				x := f
				change(&x, n)
				l = append(l, x)
			}
		}
		wrong("s", api.MaxSet, func(x *api.Fact, n int) { x.Set = n })
		wrong("h", api.MaxNodes, func(x *api.Fact, n int) { x.Home = n })
		wrong("b", api.MaxSet, func(x *api.Fact, n int) { x.Ballot.N = n })
		wrong("b", api.MaxNodes, func(x *api.Fact, n int) { x.Ballot.Node = n })
		// Any id, where the kind names none; of a Blob any that is not the digest.
		for at := range len(f.ID) {
			if x := f; f.Kind == api.FactBlob || !strings.Contains(names, "i") {
				x.ID[at] ^= 1
				l = append(l, x)
			}
		}
		for _, b := range []string{"\x00", "a", long(5000)} {
			if x := f; f.Kind == api.FactBlob || !strings.Contains(names, "x") {
				x.Data = []byte(b)
				l = append(l, x)
			}
		}
	}
	return append(l, api.Fact{}, api.Fact{Kind: api.FactBlob}, api.Fact{Kind: api.FactBlob, Data: []byte("a")}, api.Fact{Kind: api.FactBlob, ID: idOf("a")},
		blob(long(1025)), blob(long(4000)), blob(long(4001)), accept(1, 1, 1, long(4001)), decide(1, long(4001)), decide(1, long(100000)))
}

// P9.1, P9.2: what may be is put as the table says, and is got as it was put.
func TestPutAndGet(t *testing.T) {
	l, want := each()
	for i, f := range l {
		if b, e := fact.Put(f); e != api.OK || !bytes.Equal(b, want[i]) {
			t.Errorf("put %s: %v, %v, not %v", text(f), b, e, want[i])
		}
	}
	seen := map[string]string{}
	for _, f := range good() {
		if e := fact.Check(f); e != api.OK {
			t.Errorf("check %s: %v", text(f), e)
		}
		b, e := fact.Put(f)
		if e != api.OK {
			t.Errorf("put %s: %v", text(f), e)
		}
		if g, fault := fact.Get(b); fault != (api.Fault{}) || !sameFact(f, g) {
			t.Errorf("get %s: %s, %v", text(f), text(g), fault)
		}
		if other, is := seen[string(b)]; is && other != asFact(f) {
			t.Errorf("%s and %s have the same bytes", text(f), other)
		}
		seen[string(b)] = asFact(f)
	}
}

// P9.1 to P9.3: what may not be is refused by all, and nothing comes of it.
func TestRefuses(t *testing.T) {
	before := []api.Fact{born(), boot(3), blob("a"), keep(2, "a"), promise(1, 2, 3), decide(4, "b")}
	s := folded(t, before...)
	was := asState(s)
	for _, f := range bad() {
		if e := fact.Check(f); e != api.ErrArg {
			t.Errorf("check %s: %v", text(f), e)
		}
		if b, e := fact.Put(f); e != api.ErrArg || len(b) != 0 {
			t.Errorf("put %s: %v, %v", text(f), b, e)
		}
		if x, e := fact.Apply(s, f); e != api.ErrArg || asState(x) != asState(api.State{}) || asState(s) != was {
			t.Errorf("apply %s: %v, %v", text(f), x, e)
		}
		for at := range len(before) + 1 {
			if x, e := fact.Fold(slices.Insert(slices.Clone(before), at, f)); e != api.ErrArg || asState(x) != asState(api.State{}) {
				t.Errorf("fold %s at %d: %v, %v", text(f), at, x, e)
			}
		}
	}
}

// number reads a number by the document's words (3): how many bytes it has, or the error, and the place of that.
func number(b []byte) (n, size int, e api.Errno) {
	for i, x := range b {
		if i == 9 {
			return 0, 0, api.ErrForm
		}
		n += int(x%128) << (7 * i)
		if x >= 128 {
			continue
		}
		if x == 0 && i > 0 || n > api.MaxNumber {
			return 0, 0, api.ErrForm
		}
		return n, i + 1, api.OK
	}
	return 0, len(b), api.ErrBytes
}

// reads reads a fact of bytes by the document's words.
func reads(b []byte) (api.Fact, api.Fault) {
	none := api.Fact{}
	kind, at, e := number(b)
	if e != api.OK {
		return none, api.Fault{Err: e, At: at}
	}
	if kind < 1 || kind > 10 {
		return none, api.Fault{Err: api.ErrArg}
	}
	f := api.Fact{Kind: kind}
	for _, letter := range []string{"", "", "s", "x", "sd", "hsd", "hsd", "sno", "snox", "sx", "s"}[kind] {
		if letter == 'd' {
			if len(b)-at < 32 {
				return none, api.Fault{Err: api.ErrBytes, At: len(b)}
			}
			at += copy(f.ID[:], b[at:])
			continue
		}
		n, size, e := number(b[at:])
		if e != api.OK {
			return none, api.Fault{Err: e, At: at + size}
		}
		switch letter {
		case 's':
			f.Set = n
		case 'h':
			f.Home = n
		case 'n':
			f.Ballot.N = n
		case 'o':
			f.Ballot.Node = n
		case 'x':
			if n > 4000 {
				return none, api.Fault{Err: api.ErrLong, At: at}
			}
			if len(b)-at-size < n {
				return none, api.Fault{Err: api.ErrBytes, At: len(b)}
			}
			f.Data = b[at+size : at+size+n]
			at += n
		}
		at += size
	}
	if at < len(b) {
		return none, api.Fault{Err: api.ErrBytes, At: at}
	}
	if kind == api.FactBlob {
		f.ID = idOf(string(f.Data))
	}
	if !may(f) {
		return none, api.Fault{Err: api.ErrArg}
	}
	return f, api.Fault{}
}

// may tells whether what a fact has is within its bounds.
func may(f api.Fact) bool {
	in := func(n, top int) bool { return n >= 1 && n <= top }
	set, home := in(f.Set, 1<<31-1), in(f.Home, 64)
	ballot := in(f.Ballot.N, 1<<31-1) && in(f.Ballot.Node, 64)
	return []bool{false, true, set, len(f.Data) <= 1024, set, set && home, set && home, set && ballot, set && ballot && len(f.Data) <= 4000, set && len(f.Data) <= 4000, set}[f.Kind]
}

// gets asks that bytes are got as the words say; and that what is got is put as it was.
func gets(t *testing.T, b []byte) {
	t.Helper()
	was := slices.Clone(b)
	f, fault := fact.Get(b)
	want, wantFault := reads(b)
	if !sameFact(f, want) || fault != wantFault {
		t.Fatalf("get %v: %s, %v, not %s, %v", b, text(f), fault, text(want), wantFault)
	}
	if !bytes.Equal(b, was) {
		t.Fatalf("get changed %v to %v", was, b)
	}
	if fault.Err == api.OK {
		if again, e := fact.Put(f); e != api.OK || !bytes.Equal(again, b) {
			t.Fatalf("put %s: %v, %v, not %v", text(f), again, e, b)
		}
	}
}

// P9.2: faults of each kind, each at its place.
func TestGetFaults(t *testing.T) {
	nines := bytes.Repeat([]byte{255}, 9)
	id := make([]byte, 32)
	join := func(l ...[]byte) []byte { return slices.Concat(l...) }
	for _, x := range []struct {
		b    []byte
		want api.Fault
	}{
		// The number alone.
		{nil, api.Fault{Err: api.ErrBytes}}, {[]byte{}, api.Fault{Err: api.ErrBytes}}, {[]byte{128}, api.Fault{Err: api.ErrBytes, At: 1}}, {[]byte{129, 128}, api.Fault{Err: api.ErrBytes, At: 2}},
		{[]byte{129, 0}, api.Fault{Err: api.ErrForm}}, {[]byte{129, 0, 7}, api.Fault{Err: api.ErrForm}}, {join(nines, []byte{1}), api.Fault{Err: api.ErrForm}}, {join(nines[:8], []byte{64}), api.Fault{Err: api.ErrForm}},
		{nines, api.Fault{Err: api.ErrBytes, At: 9}},
		// No such kind, whatever is behind it.
		{[]byte{0}, api.Fault{Err: api.ErrArg}}, {[]byte{11}, api.Fault{Err: api.ErrArg}}, {[]byte{0, 0}, api.Fault{Err: api.ErrArg}}, {[]byte{11, 128}, api.Fault{Err: api.ErrArg}}, {[]byte{127, 1, 1}, api.Fault{Err: api.ErrArg}},
		{[]byte{129, 1}, api.Fault{Err: api.ErrArg}}, {join(nines[:8], []byte{63}), api.Fault{Err: api.ErrArg}}, {join(nines[:8], []byte{63}, nines), api.Fault{Err: api.ErrArg}},
		// All of it.
		{[]byte{1, 0}, api.Fault{Err: api.ErrBytes, At: 1}}, {[]byte{1, 1, 2}, api.Fault{Err: api.ErrBytes, At: 1}}, {[]byte{2}, api.Fault{Err: api.ErrBytes, At: 1}}, {[]byte{2, 128}, api.Fault{Err: api.ErrBytes, At: 2}},
		{[]byte{2, 128, 0}, api.Fault{Err: api.ErrForm, At: 1}}, {[]byte{2, 1, 0}, api.Fault{Err: api.ErrBytes, At: 2}}, {[]byte{2, 0, 0}, api.Fault{Err: api.ErrBytes, At: 2}},
		{[]byte{3}, api.Fault{Err: api.ErrBytes, At: 1}}, {[]byte{3, 2, 7}, api.Fault{Err: api.ErrBytes, At: 3}}, {[]byte{3, 0, 7}, api.Fault{Err: api.ErrBytes, At: 2}}, {[]byte{3, 161, 31}, api.Fault{Err: api.ErrLong, At: 1}},
		{[]byte{4, 0}, api.Fault{Err: api.ErrBytes, At: 2}}, {join([]byte{4, 1}, id[1:]), api.Fault{Err: api.ErrBytes, At: 33}}, {join([]byte{4, 1}, id, []byte{0}), api.Fault{Err: api.ErrBytes, At: 34}},
		{join([]byte{5, 1, 1}, id[1:]), api.Fault{Err: api.ErrBytes, At: 34}}, {join([]byte{6, 0, 1}, id, id), api.Fault{Err: api.ErrBytes, At: 35}},
		{[]byte{7, 1, 1}, api.Fault{Err: api.ErrBytes, At: 3}}, {[]byte{7, 1, 1, 1, 1}, api.Fault{Err: api.ErrBytes, At: 4}}, {[]byte{8, 1, 1, 1}, api.Fault{Err: api.ErrBytes, At: 4}}, {[]byte{8, 1, 1, 1, 161, 31}, api.Fault{Err: api.ErrLong, At: 4}},
		{[]byte{9, 1}, api.Fault{Err: api.ErrBytes, At: 2}}, {[]byte{9, 0, 161, 31}, api.Fault{Err: api.ErrLong, At: 2}}, {[]byte{9, 1, 1}, api.Fault{Err: api.ErrBytes, At: 3}}, {[]byte{10, 5, 5}, api.Fault{Err: api.ErrBytes, At: 2}},
		// What may not be.
		{[]byte{2, 0}, api.Fault{Err: api.ErrArg}}, {[]byte{2, 128, 128, 128, 128, 8}, api.Fault{Err: api.ErrArg}}, {join([]byte{3, 129, 8}, make([]byte, 1025)), api.Fault{Err: api.ErrArg}}, {join([]byte{3, 160, 31}, make([]byte, 4000)), api.Fault{Err: api.ErrArg}},
		{join([]byte{4, 0}, id), api.Fault{Err: api.ErrArg}}, {join([]byte{5, 0, 1}, id), api.Fault{Err: api.ErrArg}}, {join([]byte{5, 65, 1}, id), api.Fault{Err: api.ErrArg}}, {join([]byte{6, 1, 0}, id), api.Fault{Err: api.ErrArg}},
		{[]byte{7, 0, 1, 1}, api.Fault{Err: api.ErrArg}}, {[]byte{7, 1, 0, 1}, api.Fault{Err: api.ErrArg}}, {[]byte{7, 1, 1, 0}, api.Fault{Err: api.ErrArg}}, {[]byte{7, 1, 1, 65}, api.Fault{Err: api.ErrArg}}, {[]byte{7, 1, 0, 0}, api.Fault{Err: api.ErrArg}},
		{[]byte{8, 0, 1, 1, 0}, api.Fault{Err: api.ErrArg}}, {[]byte{8, 1, 0, 1, 0}, api.Fault{Err: api.ErrArg}}, {[]byte{8, 1, 1, 65, 0}, api.Fault{Err: api.ErrArg}}, {[]byte{9, 0, 0}, api.Fault{Err: api.ErrArg}}, {[]byte{10, 0}, api.Fault{Err: api.ErrArg}},
		// What may just be.
		{[]byte{2, 255, 255, 255, 255, 7}, api.Fault{}}, {join([]byte{3, 128, 8}, make([]byte, 1024)), api.Fault{}}, {[]byte{3, 0}, api.Fault{}}, {join([]byte{5, 64, 1}, id), api.Fault{}},
		{[]byte{8, 1, 1, 64, 0}, api.Fault{}}, {join([]byte{9, 1, 160, 31}, make([]byte, 4000)), api.Fault{}},
	} {
		if f, fault := fact.Get(x.b); fault != x.want || fault.Err != api.OK && !sameFact(f, api.Fact{}) {
			t.Errorf("get %v: %s, %v, not %v", x.b, text(f), fault, x.want)
		}
		gets(t, x.b)
	}
}

// P9.2: all short bytes of some few, against the words.
func TestGetEachShort(t *testing.T) {
	some := []byte{0, 1, 2, 3, 7, 8, 9, 10, 11, 64, 65, 127, 128, 129, 161, 255}
	for size := range 6 {
		b, count := make([]byte, size), 1
		for range size {
			count *= len(some)
		}
		for i := range count {
			for at := range b {
				b[at] = some[i%len(some)]
				i /= len(some)
			}
			gets(t, b)
		}
	}
}

// P9.2: what was put, cut at each byte, lengthened by each, and each byte of it turned.
func TestGetTurned(t *testing.T) {
	for _, f := range good() {
		b, _ := fact.Put(f)
		for at := range b {
			// Within long data one byte is as another.
			if at > 100 && at < len(b)-100 {
				continue
			}
			gets(t, b[:at])
			for _, turn := range []byte{1, 2, 64, 128, 255} {
				turned := slices.Clone(b)
				turned[at] ^= turn
				gets(t, turned)
			}
		}
		for _, more := range []byte{0, 1, 128, 255} {
			gets(t, append(slices.Clone(b), more))
		}
	}
}

// applied asks that facts, one by one, and all at once, come to what the words say; that what they are applied to stays; and what follows (P9.4, P9.5).
func applied(t *testing.T, l ...api.Fact) api.State {
	t.Helper()
	p, s := first(), api.State{}
	for i, f := range l {
		p.does(f)
		was := asState(s)
		next, e := fact.Apply(s, f)
		if e != api.OK || asState(s) != was {
			t.Fatalf("apply %s: %v; ahead of it\n%snow\n%s", text(f), e, was, asState(s))
		}
		is(t, texts(l[:i+1]), next, p.state())
		rises(t, f, s, next)
		s = next
	}
	is(t, "all at once: "+texts(l), folded(t, l...), s)
	back := fact.Facts(s)
	is(t, "facts of\n"+texts(l)+"\nare\n"+texts(back), folded(t, back...), s)
	return s
}

// vote tells a set's vote in a state.
func vote(s api.State, set int) (api.Vote, bool) {
	for _, v := range s.Votes {
		if v.Set == set {
			return v, true
		}
	}
	return api.Vote{}, false
}

// rises asks for P9.5: what a fact leaves of the state ahead of it.
func rises(t *testing.T, f api.Fact, old, next api.State) {
	t.Helper()
	if old.Born && !next.Born || next.Boot < old.Boot {
		t.Fatalf("%s: Born or Boot fell back", text(f))
	}
	for _, v := range old.Votes {
		w, is := vote(next, v.Set)
		if !is || less(w.Promise, v.Promise) || less(w.Accepted, v.Accepted) || less(w.Promise, w.Accepted) {
			t.Fatalf("%s: vote %v behind %v", text(f), w, v)
		}
		if w.Accepted == v.Accepted && !bytes.Equal(w.Data, v.Data) && (f.Kind != api.FactAccept || f.Ballot != w.Accepted) {
			t.Fatalf("%s: vote %v behind %v", text(f), w, v)
		}
	}
	for _, d := range old.Decisions {
		if !slices.ContainsFunc(next.Decisions, func(x api.Decision) bool { return x.Set == d.Set && bytes.Equal(x.Data, d.Data) }) {
			t.Fatalf("%s: the decision of %d is gone", text(f), d.Set)
		}
	}
	if slices.Contains([]int{api.FactBorn, api.FactBoot, api.FactBlob, api.FactPromise, api.FactDecide}, f.Kind) {
		if twice, e := fact.Apply(next, f); e != api.OK || !fact.Same(twice, next) {
			t.Fatalf("%s twice: %v\n%snot\n%s", text(f), e, asState(twice), asState(next))
		}
	}
}

// rows does all rows of so many of some facts.
func rows(t *testing.T, size int, some ...api.Fact) {
	l := make([]api.Fact, size)
	var from func(at int)
	from = func(at int) {
		if at == size {
			applied(t, l...)
			return
		}
		for _, f := range some {
			l[at] = f
			from(at + 1)
		}
	}
	from(0)
}

// P9.3: all rows of what is kept and lacked of one blob.
func TestRowsOfOneBlob(t *testing.T) {
	rows(t, 5, blob("a"), keep(1, "a"), keep(2, "a"), hint(1, 1, "a"), done(1, 1, "a"), drop(1))
}

// P9.3: all rows of two blobs, sets and homes.
func TestRowsOfTwo(t *testing.T) {
	rows(t, 4, blob("a"), blob("b"), keep(1, "a"), keep(1, "b"), hint(1, 1, "b"), hint(2, 1, "b"), hint(1, 2, "a"), done(2, 1, "b"), drop(1))
}

// P9.3: all rows behind two blobs that are kept and lacked in many ways.
func TestRowsBehindMuch(t *testing.T) {
	begin := []api.Fact{blob("b"), blob("a"), keep(2, "a"), keep(1, "b"), hint(2, 2, "b"), hint(2, 1, "a"), hint(1, 2, "a")}
	some := []api.Fact{done(2, 2, "b"), done(1, 2, "a"), done(2, 1, "a"), done(1, 1, "a"), drop(1), drop(2), drop(3), keep(2, "b")}
	for _, f := range some {
		for _, g := range some {
			for _, h := range some {
				applied(t, append(slices.Clone(begin), f, g, h)...)
			}
		}
	}
}

// P9.3, P9.5: all rows of votes on one set, by ballots of all orders.
func TestRowsOfVotes(t *testing.T) {
	rows(t, 5, promise(1, 1, 2), promise(1, 2, 1), accept(1, 1, 2, "a"), accept(1, 1, 2, "b"), accept(1, 2, 1, "c"), accept(1, 1, 1, ""))
}

// P9.3, P9.5: all rows of what is there once: Born, Boot, decisions; and of votes that they leave alone.
func TestRowsOfTheRest(t *testing.T) {
	rows(t, 4, born(), boot(1), boot(2), decide(1, "a"), decide(1, "b"), decide(2, ""), promise(2, 1, 1), drop(1))
}

// chance tells a fact by chance, of a few blobs, sets, homes and ballots.
func chance(r *rand.Rand) api.Fact {
	b, set, home := string(rune('a'+r.Intn(6))), 1+r.Intn(4), 1+r.Intn(3)
	n, node := 1+r.Intn(5), 1+r.Intn(3)
	switch r.Intn(14) {
	case 0:
		return born()
	case 1:
		return boot(1 + r.Intn(9))
	case 2, 3:
		return blob(b)
	case 4, 5:
		return keep(set, b)
	case 6, 7:
		return hint(home, set, b)
	case 8, 9:
		return done(home, set, b)
	case 10:
		return promise(set, n, node)
	case 11:
		return accept(set, n, node, b)
	case 12:
		return decide(set, b)
	}
	return drop(set)
}

// P9.3 to P9.5: long rows by chance.
func TestLongRows(t *testing.T) {
	for seed := range 80 {
		r := rand.New(rand.NewSource(int64(seed)))
		var l []api.Fact
		for range 120 {
			l = append(l, chance(r))
		}
		applied(t, l...)
	}
}

// P9.3: lists rise by ids, sets, homes as numbers, not as texts, whatever the order in which things come.
func TestRising(t *testing.T) {
	sets, homes := []int{1, 2, 9, 10, 100, 127, 128, 1 << 20, api.MaxSet}, []int{1, 2, 9, 10, 63, 64}
	for seed := range 10 {
		r := rand.New(rand.NewSource(int64(seed)))
		var blobs, l []api.Fact
		for i := range 20 {
			b := fmt.Sprint(i)
			blobs = append(blobs, blob(b))
			for range 4 {
				set, home := sets[r.Intn(len(sets))], homes[r.Intn(len(homes))]
				l = append(l, keep(set, b), hint(home, set, b), promise(set, 1+r.Intn(3), home), accept(set, 2+r.Intn(3), home, b), decide(set, b))
			}
		}
		for _, x := range [][]api.Fact{blobs, l} {
			r.Shuffle(len(x), func(i, j int) { x[i], x[j] = x[j], x[i] })
		}
		all := append(blobs, l...)
		is(t, texts(all), folded(t, all...), words(all...))
		s := folded(t, all...)
		is(t, "its facts", folded(t, fact.Facts(s)...), s)
	}
}

// P9.3: which facts come to a state, in which order: a Promise ahead of an Accept of the same ballot, behind one of a lesser one.
func TestFacts(t *testing.T) {
	for _, x := range []struct{ l, want []api.Fact }{
		{nil, nil},
		{[]api.Fact{born()}, []api.Fact{born()}},
		{[]api.Fact{boot(3), boot(2)}, []api.Fact{boot(3)}},
		{[]api.Fact{blob("a"), blob("a")}, []api.Fact{blob("a")}},
		{[]api.Fact{keep(1, "a")}, nil},
		{[]api.Fact{promise(2, 3, 4)}, []api.Fact{promise(2, 3, 4)}},
		{[]api.Fact{accept(2, 3, 4, "x")}, []api.Fact{promise(2, 3, 4), accept(2, 3, 4, "x")}},
		{[]api.Fact{accept(2, 3, 4, "")}, []api.Fact{promise(2, 3, 4), accept(2, 3, 4, "")}},
		{[]api.Fact{accept(2, 3, 4, "x"), promise(2, 3, 5)}, []api.Fact{accept(2, 3, 4, "x"), promise(2, 3, 5)}},
		{[]api.Fact{accept(2, 3, 4, "x"), promise(2, 4, 1)}, []api.Fact{accept(2, 3, 4, "x"), promise(2, 4, 1)}},
		{[]api.Fact{promise(2, 4, 1), accept(2, 3, 4, "x")}, []api.Fact{promise(2, 4, 1)}},
		{[]api.Fact{decide(1, ""), decide(1, "a")}, []api.Fact{decide(1, "")}},
		// ca978112.. is the digest of a, 3e23e816.. that of b.
		{
			[]api.Fact{decide(10, "z"), decide(9, ""), accept(7, 2, 2, "v"), promise(7, 3, 1), promise(6, 1, 1), blob("a"), blob("b"), hint(2, 1, "a"), hint(1, 2, "a"), hint(1, 2, "b"), keep(3, "b"), keep(2, "a"), keep(2, "b"), boot(8), born()},
			[]api.Fact{born(), boot(8), blob("b"), blob("a"), keep(2, "b"), keep(2, "a"), keep(3, "b"), hint(1, 2, "b"), hint(1, 2, "a"), hint(2, 1, "a"), promise(6, 1, 1), accept(7, 2, 2, "v"), promise(7, 3, 1), decide(9, ""), decide(10, "z")},
		},
	} {
		if got := fact.Facts(folded(t, x.l...)); !slices.EqualFunc(got, x.want, sameFact) {
			t.Errorf("facts of\n%s\nare\n%s\nnot\n%s", texts(x.l), texts(got), texts(x.want))
		}
	}
}

// P9.3: where blobs go: only those that the fact took something from.
func TestBlobsGo(t *testing.T) {
	for _, x := range []struct {
		l    []api.Fact
		want string
	}{
		{[]api.Fact{blob("a"), blob("b"), drop(1)}, "ab"},
		{[]api.Fact{blob("a"), done(1, 1, "a")}, "a"},
		{[]api.Fact{blob("a"), blob("b"), keep(1, "a"), drop(1)}, "b"},
		{[]api.Fact{blob("a"), keep(1, "a"), drop(2)}, "a"},
		{[]api.Fact{blob("a"), keep(1, "a"), keep(2, "a"), drop(1)}, "a"},
		{[]api.Fact{blob("a"), keep(1, "a"), keep(2, "a"), drop(1), drop(2)}, ""},
		{[]api.Fact{blob("a"), keep(1, "a"), hint(1, 2, "a"), drop(1)}, "a"},
		{[]api.Fact{blob("a"), keep(1, "a"), hint(1, 2, "a"), drop(2)}, "a"},
		{[]api.Fact{blob("a"), keep(1, "a"), hint(1, 1, "a"), hint(2, 1, "a"), drop(1)}, ""},
		{[]api.Fact{blob("a"), hint(1, 1, "a"), hint(2, 1, "a"), done(1, 1, "a")}, "a"},
		{[]api.Fact{blob("a"), hint(1, 1, "a"), hint(2, 1, "a"), done(1, 1, "a"), done(2, 1, "a")}, ""},
		{[]api.Fact{blob("a"), hint(1, 1, "a"), hint(1, 2, "a"), done(1, 1, "a"), done(1, 1, "a")}, "a"},
		{[]api.Fact{blob("a"), hint(1, 1, "a"), drop(1), done(1, 1, "a"), blob("a"), done(1, 1, "a"), drop(1)}, "a"},
		{[]api.Fact{blob("a"), blob("b"), blob("c"), keep(1, "a"), keep(1, "b"), hint(1, 1, "c"), keep(2, "b"), drop(1)}, "b"},
		{[]api.Fact{blob("a"), decide(1, "a"), promise(1, 1, 1), keep(1, "a"), drop(1)}, ""},
	} {
		s := applied(t, x.l...)
		var got []string
		for _, b := range s.Blobs {
			got = append(got, string(b.Data))
		}
		slices.Sort(got)
		if strings.Join(got, "") != x.want {
			t.Errorf("%s\nblobs %q, not %q", texts(x.l), got, x.want)
		}
	}
}

// much tells a state that has of all something.
func much(t *testing.T) api.State {
	return folded(t, born(), boot(3), blob("a"), blob("b"), keep(1, "a"), keep(2, "b"), hint(1, 2, "a"), hint(2, 1, "b"),
		promise(1, 2, 3), accept(2, 3, 4, "v"), decide(3, "d"), decide(4, ""))
}

// P9.3: states that are unlike in anything at all are not the same.
func TestSame(t *testing.T) {
	if !fact.Same(api.State{}, api.State{}) || !fact.Same(much(t), much(t)) || fact.Same(much(t), api.State{}) || fact.Same(api.State{}, much(t)) {
		t.Error("same as itself, and not as another one")
	}
	for i, change := range []func(s *api.State){
		func(s *api.State) { s.Born = false }, func(s *api.State) { s.Boot = 4 },
		func(s *api.State) { s.Blobs[0].ID[31] ^= 1 }, func(s *api.State) { s.Blobs[1].Data[0] ^= 1 }, func(s *api.State) { s.Blobs[1].Data = nil }, func(s *api.State) { s.Blobs = s.Blobs[:1] }, func(s *api.State) { s.Blobs = nil },
		func(s *api.State) { s.Keeps[1].Set = 9 }, func(s *api.State) { s.Keeps[0].ID[0] ^= 1 }, func(s *api.State) { s.Keeps = s.Keeps[1:] },
		func(s *api.State) { s.Hints[0].Home = 9 }, func(s *api.State) { s.Hints[1].Set = 9 }, func(s *api.State) { s.Hints[1].ID[5] ^= 1 }, func(s *api.State) { s.Hints = append(s.Hints, s.Hints[1]) },
		func(s *api.State) { s.Votes[0].Set = 9 }, func(s *api.State) { s.Votes[0].Promise.N = 9 }, func(s *api.State) { s.Votes[0].Promise.Node = 9 }, func(s *api.State) { s.Votes[1].Accepted.N = 9 }, func(s *api.State) { s.Votes[1].Accepted.Node = 9 }, func(s *api.State) { s.Votes[1].Data = []byte("w") }, func(s *api.State) { s.Votes = s.Votes[:1] },
		func(s *api.State) { s.Decisions[0].Set = 1 }, func(s *api.State) { s.Decisions[0].Data[0] = 'e' }, func(s *api.State) { s.Decisions[1].Data = []byte{0} }, func(s *api.State) { s.Decisions = s.Decisions[:1] },
		func(s *api.State) { s.Keeps[0], s.Keeps[1] = s.Keeps[1], s.Keeps[0] },
	} {
		s := much(t)
		change(&s)
		if fact.Same(s, much(t)) || fact.Same(much(t), s) || !fact.Same(s, s) {
			t.Errorf("change %d", i)
		}
	}
	empty := api.State{Blobs: []api.Blob{}, Keeps: []api.Keep{}, Hints: []api.Hint{}, Votes: []api.Vote{}, Decisions: []api.Decision{}}
	if !fact.Same(empty, api.State{}) || !fact.Same(api.State{}, empty) {
		t.Error("lists that are empty")
	}
	a, b := api.State{Blobs: []api.Blob{{}}, Votes: []api.Vote{{Set: 1}}, Decisions: []api.Decision{{Set: 1}}}, api.State{Blobs: []api.Blob{{Data: []byte{}}}, Votes: []api.Vote{{Set: 1, Data: []byte{}}}, Decisions: []api.Decision{{Set: 1, Data: []byte{}}}}
	if !fact.Same(a, b) || !fact.Same(b, a) {
		t.Error("data that is empty")
	}
}

// spoil writes over all memory of a state, spare room too.
func spoil(s api.State) {
	over := func(b []byte) {
		b = b[:cap(b)]
		for i := range b {
			b[i] = '!'
		}
	}
	for _, x := range s.Blobs[:cap(s.Blobs)] {
		over(x.Data)
	}
	for _, x := range s.Votes[:cap(s.Votes)] {
		over(x.Data)
	}
	for _, x := range s.Decisions[:cap(s.Decisions)] {
		over(x.Data)
	}
	fill(s.Blobs, api.Blob{Data: []byte("!")})
	fill(s.Keeps, api.Keep{Set: 77})
	fill(s.Hints, api.Hint{Set: 77})
	fill(s.Votes, api.Vote{Set: 77})
	fill(s.Decisions, api.Decision{Set: 77})
}

func fill[T any](l []T, x T) {
	for i := range l[:cap(l)] {
		l[:cap(l)][i] = x
	}
}

// roomy tells the same bytes, with spare room of which all is 7.
func roomy(b []byte) []byte {
	out := bytes.Repeat([]byte{7}, len(b)+20)
	copy(out, b)
	return out[:len(b)]
}

// roomyList tells the same list, with spare room.
func roomyList[T any](l []T) []T {
	return append(make([]T, 0, len(l)+9), l...)
}

// untouched asks that spare room is as it was.
func untouched(t *testing.T, b []byte) {
	t.Helper()
	for _, x := range b[len(b):cap(b)] {
		if x != 7 {
			t.Fatal("spare room was written")
		}
	}
}

// Rule 4: what is answered is new memory, and what was handed in is left alone, its spare room too.
func TestMemory(t *testing.T) {
	l := []api.Fact{born(), blob("a"), blob("b"), keep(1, "a"), hint(2, 1, "b"), accept(1, 2, 3, "v"), promise(2, 1, 1), decide(3, "d")}
	for i := range l {
		if len(l[i].Data) > 0 {
			l[i].Data = roomy(l[i].Data)
		}
	}
	s := folded(t, l...)
	was := asState(s)
	other := folded(t, l...)
	spoil(other)
	if is := asState(folded(t, l...)); is != was || asState(s) != was {
		t.Error("two answers share memory, or one and the facts")
	}
	for _, f := range l {
		untouched(t, f.Data)
		if len(f.Data) > 0 {
			f.Data[0]++
		}
	}
	if asState(s) != was {
		t.Error("facts share memory with their state")
	}
	// Lists with spare room, in which an insertion could stand.
	s.Blobs, s.Keeps, s.Hints = roomyList(s.Blobs), roomyList(s.Keeps), roomyList(s.Hints)
	s.Votes, s.Decisions = roomyList(s.Votes), roomyList(s.Decisions)
	for _, f := range append(good(), keep(1, "b"), blob("0"), blob("c"), done(2, 1, "b"), drop(1), accept(1, 9, 9, "w")) {
		next, e := fact.Apply(s, f)
		if e != api.OK || asState(s) != was {
			t.Fatalf("%s: %v", text(f), e)
		}
		spoil(next)
		if asState(s) != was || len(s.Blobs[:cap(s.Blobs)][len(s.Blobs)].Data) != 0 || s.Keeps[:cap(s.Keeps)][len(s.Keeps)] != (api.Keep{}) || s.Votes[:cap(s.Votes)][len(s.Votes)].Set != 0 {
			t.Fatalf("%s: the state behind it shares memory with the one ahead", text(f))
		}
	}
	facts := fact.Facts(s)
	for _, f := range facts {
		fill(f.Data, '!')
	}
	if asState(s) != was {
		t.Error("a state shares memory with its facts")
	}
}

// Rule 4: bytes are new memory, too.
func TestMemoryOfBytes(t *testing.T) {
	for _, f := range good() {
		f.Data = roomy(f.Data)
		was := asFact(f)
		b, _ := fact.Put(f)
		want := slices.Clone(b)
		fill(b, '!')
		if asFact(f) != was {
			t.Fatalf("put %s: shares memory", text(f))
		}
		untouched(t, f.Data)
		b = roomy(want)
		g, _ := fact.Get(b)
		fill(g.Data, '!')
		if !bytes.Equal(b, want) {
			t.Fatalf("get %s: shares memory", text(f))
		}
		untouched(t, b)
		g, _ = fact.Get(b)
		fill(b, '!')
		if asFact(g) != was {
			t.Fatalf("get %s: shares memory", text(f))
		}
	}
}

// P9.3: all data of a state's facts is apart from all other data.
func TestFactsApart(t *testing.T) {
	s := much(t)
	l := fact.Facts(s)
	for i := range l {
		was := texts(slices.Delete(slices.Clone(l), i, i+1))
		fill(l[i].Data, '!')
		if texts(slices.Delete(slices.Clone(l), i, i+1)) != was {
			t.Errorf("%s shares memory with others", text(l[i]))
		}
	}
}

// P1: no list that is no state makes a call panic, or change what it was handed.
func TestNoStates(t *testing.T) {
	a, b := idOf("a"), idOf("b")
	// The digest of a is greater than that of b.
	states := []api.State{
		{Boot: -1}, {Boot: math.MinInt}, {Boot: math.MaxInt},
		{Blobs: []api.Blob{{ID: a}, {ID: b}, {ID: a}}, Keeps: []api.Keep{{Set: 1, ID: a}, {Set: 1, ID: a}, {Set: -1}, {}}},
		{Blobs: []api.Blob{{Data: []byte(long(5000))}, {}}, Hints: []api.Hint{{}, {Home: 1, Set: 1, ID: a}, {Home: -1}, {Home: 1, Set: 1, ID: a}}},
		{Keeps: []api.Keep{{Set: 1, ID: b}}, Hints: []api.Hint{{Home: 1, Set: 1, ID: a}}},
		{Votes: []api.Vote{{}, {Set: 2}, {Set: 1, Promise: api.Ballot{N: -1, Node: -1}}, {Set: 1, Accepted: api.Ballot{N: 5, Node: 5}}, {Set: math.MinInt, Promise: api.Ballot{N: math.MaxInt}}}},
		{Decisions: []api.Decision{{Set: 2}, {Set: 1}, {Set: 1}, {Set: math.MinInt}}},
	}
	for _, s := range states {
		was := asState(s)
		for _, f := range append(good(), keep(1, "a"), hint(1, 1, "a"), done(1, 1, "a"), blob("a"), drop(1)) {
			if _, e := fact.Apply(s, f); e != api.OK {
				t.Errorf("%s: %v", text(f), e)
			}
		}
		fact.Facts(s)
		for _, other := range states {
			if fact.Same(s, other) != (asState(other) == was) {
				t.Errorf("same:\n%sand\n%s", was, asState(other))
			}
		}
		if asState(s) != was {
			t.Errorf("changed\n%s", was)
		}
	}
}

// P9.3: great states, and a Drop of much.
func TestGreat(t *testing.T) {
	const count = 3000
	var l []api.Fact
	for i := range count {
		b := fmt.Sprint(i)
		l = append(l, blob(b), keep(1+i%2, b), hint(1+i%64, 1, b))
	}
	s := folded(t, l...)
	is(t, "great", s, words(l...))
	for i := range count {
		l = append(l, done(1+i%64, 1, fmt.Sprint(i)))
	}
	s = folded(t, append(l, drop(1))...)
	if len(s.Blobs) != count/2 || len(s.Keeps) != count/2 || len(s.Hints) != 0 {
		t.Errorf("%d blobs, %d keeps, %d hints", len(s.Blobs), len(s.Keeps), len(s.Hints))
	}
}
