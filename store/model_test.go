package store_test

import (
	"crypto/sha256"
	"encoding/binary"
	"fmt"
	"hash/crc32"
	"strings"
	"testing"

	"chartulary/api"
	"chartulary/disk"
	"chartulary/fact"
	"chartulary/store"
)

// A fact of each kind, by what it names.
func born() api.Fact                  { return api.Fact{Kind: api.FactBorn} }
func boot(n int) api.Fact             { return api.Fact{Kind: api.FactBoot, Set: n} }
func blob(b string) api.Fact          { return api.Fact{Kind: api.FactBlob, ID: idOf(b), Data: []byte(b)} }
func keep(set int, b string) api.Fact { return api.Fact{Kind: api.FactKeep, Set: set, ID: idOf(b)} }
func drop(set int) api.Fact           { return api.Fact{Kind: api.FactDrop, Set: set} }
func decide(set int, b string) api.Fact {
	return api.Fact{Kind: api.FactDecide, Set: set, Data: []byte(b)}
}
func hint(home, set int, b string) api.Fact {
	return api.Fact{Kind: api.FactHint, Home: home, Set: set, ID: idOf(b)}
}
func done(home, set int, b string) api.Fact {
	return api.Fact{Kind: api.FactDone, Home: home, Set: set, ID: idOf(b)}
}
func promise(set, n, node int) api.Fact {
	return api.Fact{Kind: api.FactPromise, Set: set, Ballot: api.Ballot{N: n, Node: node}}
}
func accept(set, n, node int, b string) api.Fact {
	return api.Fact{Kind: api.FactAccept, Set: set, Ballot: api.Ballot{N: n, Node: node}, Data: []byte(b)}
}

// idOf tells the digest of a text, not by the project's own.
func idOf(b string) api.ID { return sha256.Sum256([]byte(b)) }

// number tells a number's bytes.
func number(n int) string { return string(binary.AppendUvarint(nil, uint64(n))) }

// row tells bytes behind their number, one behind the other, and ahead of all how many there are.
func row(l ...string) string {
	out := number(len(l))
	for _, b := range l {
		out += number(len(b)) + b
	}
	return out
}

// bytesOf tells a fact's bytes, if it may be.
func bytesOf(f api.Fact) (string, bool) {
	b, e := fact.Put(f)
	return string(b), e == api.OK
}

// recordOf tells the record of facts, and why it is none.
func recordOf(l []api.Fact) (string, api.Errno) {
	var out []string
	for _, f := range l {
		b, may := bytesOf(f)
		if !may {
			return "", api.ErrArg
		}
		out = append(out, b)
	}
	switch b := row(out...); {
	case len(l) == 0:
		return "", api.ErrArg
	case len(b) > 4000:
		return "", api.ErrLong
	default:
		return b, api.OK
	}
}

// piece tells the number at the beginning of bytes, and what is behind it, if there is one.
func piece(b string) (int, string, bool) {
	n, size := binary.Uvarint([]byte(b))
	if size < 1 || number(int(n)) != b[:size] || n > 4000 {
		return 0, "", false
	}
	return int(n), b[size:], true
}

// factsOf tells the facts of a record, if it is one of facts.
func factsOf(b string) ([]api.Fact, bool) {
	n, b, is := piece(b)
	if !is || n == 0 {
		return nil, false
	}
	var l []api.Fact
	for range n {
		var size int
		if size, b, is = piece(b); !is || size > len(b) {
			return nil, false
		}
		f, fault := fact.Get([]byte(b[:size]))
		if fault.Err != api.OK {
			return nil, false
		}
		l, b = append(l, f), b[size:]
	}
	return l, b == ""
}

// framed tells a record's frame.
func framed(b string) string {
	head := binary.LittleEndian.AppendUint32(nil, uint32(len(b)))
	head = binary.LittleEndian.AppendUint32(head, crc32.ChecksumIEEE([]byte(b)))
	return string(head) + b
}

// log tells the log of records, each of some facts.
func log(l ...[]api.Fact) string {
	out := ""
	for _, facts := range l {
		b, e := recordOf(facts)
		if e != api.OK {
			panic(e)
		}
		out += framed(b)
	}
	return out
}

// single tells the log of these facts, one a record.
func single(l ...api.Fact) string {
	out := ""
	for _, f := range l {
		out += log([]api.Fact{f})
	}
	return out
}

// split tells the records of a log up to the first place where no frame stands, and that place.
func split(log string) ([]string, int) {
	var l []string
	at := 0
	for {
		rest := log[at:]
		if len(rest) < 8 {
			return l, at
		}
		n := int(binary.LittleEndian.Uint32([]byte(rest)))
		if n < 1 || n > 4000 || len(rest) < 8+n || framed(rest[8:8+n]) != rest[:8+n] {
			return l, at
		}
		l = append(l, rest[8:8+n])
		at += 8 + n
	}
}

// folded tells the state of facts that all may be.
func folded(l []api.Fact) api.State {
	s, e := fact.Fold(l)
	if e != api.OK {
		panic(e)
	}
	return s
}

// tooGreat tells whether a state is too great.
func tooGreat(s api.State) bool {
	return len(s.Blobs) > 1000 || len(s.Hints) > 1000 || len(s.Votes) > 64 || len(s.Decisions) > 64
}

// plain is a disk and a store over it as the document's words say: texts that are firm, loose and next, and the facts that were added.
type plain struct {
	firm, loose, next string
	room, fuse, steps int
	fused, out        bool
	opened, unsynced  bool
	facts             []api.Fact
}

// state tells what the facts come to.
func (p *plain) state() api.State { return folded(p.facts) }

// burns counts a step, and tells whether the disk is out from it on.
func (p *plain) burns() bool {
	p.steps++
	if p.fused && p.fuse == 0 {
		p.out = true
	}
	p.fuse--
	return p.out
}

// lays tells what the laying of bytes answers, and lays them in one of the areas.
func (p *plain) lays(area *string, b string) api.Errno {
	if p.out {
		return api.ErrBroken
	}
	if len(p.firm+p.loose+p.next+b) > p.room {
		return api.ErrFull
	}
	*area += b
	if p.burns() {
		return api.ErrBroken
	}
	return api.OK
}

// syncs tells what the disk's Sync answers, and does it.
func (p *plain) syncs() api.Errno {
	if p.out || p.burns() {
		return api.ErrBroken
	}
	p.firm, p.loose = p.firm+p.loose, ""
	return api.OK
}

// rewrites tells what a rewriting of the log answers, and does it.
func (p *plain) rewrites(log string) api.Errno {
	if e := p.lays(&p.next, log); e != api.OK {
		return e
	}
	if p.burns() {
		return api.ErrBroken
	}
	p.firm, p.loose, p.next = p.next, "", ""
	return api.OK
}

// opens tells what an Open answers, and does it: what is none of facts changes nothing.
func (p *plain) opens() api.Errno {
	p.opened, p.unsynced, p.facts = false, false, nil
	if p.out {
		return api.ErrBroken
	}
	l, at := split(p.firm + p.loose)
	was := *p
	if at < len(p.firm+p.loose) {
		if e := p.rewrites((p.firm + p.loose)[:at]); e != api.OK {
			return e
		}
	}
	var facts []api.Fact
	for _, b := range l {
		some, is := factsOf(b)
		if !is {
			*p = was
			return api.ErrCorrupt
		}
		facts = append(facts, some...)
	}
	p.opened, p.facts = true, facts
	return api.OK
}

// adds tells what an Add answers, and does it.
func (p *plain) adds(l []api.Fact) api.Errno {
	if !p.opened {
		return api.ErrNil
	}
	b, e := recordOf(l)
	if e != api.OK {
		return e
	}
	facts := append(append([]api.Fact(nil), p.facts...), l...)
	if tooGreat(folded(facts)) && !tooGreat(p.state()) {
		return api.ErrFull
	}
	if e := p.lays(&p.loose, framed(b)); e != api.OK {
		return e
	}
	p.facts, p.unsynced = facts, true
	return api.OK
}

// pair is a disk and a store over it, if it has one, and what they should be; done tells what was done to both.
type pair struct {
	d    *disk.Disk
	s    *store.Store
	p    plain
	done []string
}

// act is one call, done to both; it tells both answers.
type act struct {
	name string
	do   func(x *pair) (got, want api.Errno)
}

// name tells facts for a list of acts.
func name(l []api.Fact) string {
	kinds := [api.Facts]string{"none", "Born", "Boot", "Blob", "Keep", "Hint", "Done", "Promise", "Accept", "Decide", "Drop"}
	var out []string
	for i, f := range l {
		if i == 5 {
			return strings.Join(out, ", ") + fmt.Sprintf(".. %d in all", len(l))
		}
		kind := fmt.Sprint("kind ", f.Kind)
		if f.Kind >= 0 && f.Kind < api.Facts {
			kind = kinds[f.Kind]
		}
		out = append(out, fmt.Sprintf("%s %d %d %v %x.. of %d bytes", kind, f.Home, f.Set, f.Ballot, f.ID[:2], len(f.Data)))
	}
	return strings.Join(out, ", ")
}

func adds(l ...api.Fact) act {
	return act{"Add(" + name(l) + ")", func(x *pair) (api.Errno, api.Errno) {
		return x.s.Add(l), x.p.adds(l)
	}}
}

func syncs() act {
	return act{"Sync", func(x *pair) (api.Errno, api.Errno) {
		got := x.s.Sync()
		if !x.p.opened {
			return got, api.ErrNil
		}
		if !x.p.unsynced {
			return got, api.OK
		}
		want := x.p.syncs()
		x.p.unsynced = want != api.OK
		return got, want
	}}
}

func compacts() act {
	return act{"Compact", func(x *pair) (api.Errno, api.Errno) {
		got := x.s.Compact()
		if !x.p.opened {
			return got, api.ErrNil
		}
		want := x.p.rewrites(single(fact.Facts(x.p.state())...))
		x.p.unsynced = x.p.unsynced && want != api.OK
		return got, want
	}}
}

func opens() act {
	return act{"Open", func(x *pair) (got, want api.Errno) {
		x.s, got = store.Open(x.d)
		return got, x.p.opens()
	}}
}

// crashes has the disk crash; whatever store there was is no more.
func crashes(kept int) act {
	return act{fmt.Sprintf("Crash(%d)", kept), func(x *pair) (api.Errno, api.Errno) {
		p := &x.p
		p.firm += p.loose[:min(kept, len(p.loose))]
		p.loose, p.next = "", ""
		p.fused, p.out, p.opened, p.unsynced, p.facts = false, false, false, false, nil
		x.s = nil
		return x.d.Crash(kept), api.OK
	}}
}

func fuses(n int) act {
	return act{fmt.Sprintf("Fuse(%d)", n), func(x *pair) (api.Errno, api.Errno) {
		x.p.fused, x.p.fuse = true, n
		return x.d.Fuse(n), api.OK
	}}
}

func rooms(n int) act {
	return act{fmt.Sprintf("Room(%d)", n), func(x *pair) (api.Errno, api.Errno) {
		x.p.room = n
		return x.d.Room(n), api.OK
	}}
}

// lays has bytes at the end of the log without a store.
func lays(b string) act {
	return act{fmt.Sprintf("disk.Append(%d bytes)", len(b)), func(x *pair) (api.Errno, api.Errno) {
		return x.d.Append([]byte(b)), x.p.lays(&x.p.loose, b)
	}}
}

// hardens has the log firm without a store.
func hardens() act {
	return act{"disk.Sync", func(x *pair) (api.Errno, api.Errno) {
		return x.d.Sync(), x.p.syncs()
	}}
}

// begin tells an empty disk of a room, with no store yet, and what it should be.
func begin(t *testing.T, room int) *pair {
	t.Helper()
	d, e := disk.New(room)
	if d == nil || e != api.OK {
		t.Fatalf("new of room %d: %v", room, e)
	}
	return &pair{d: d, p: plain{room: room}}
}

// row tells what was done.
func (x *pair) row() string {
	return strings.Join(x.done, ", ")
}

// do does acts one by one, each of which must be answered as the words say, and leave what they say.
func (x *pair) do(t *testing.T, acts ...act) {
	t.Helper()
	for _, a := range acts {
		x.done = append(x.done, a.name)
		if got, want := a.do(x); got != want {
			t.Fatalf("%s: the last one is answered %v, not %v", x.row(), got, want)
		}
		x.same(t)
	}
}

// asks asks that an act is answered so, by the words too.
func (x *pair) asks(t *testing.T, want api.Errno, a act) {
	t.Helper()
	x.done = append(x.done, a.name)
	if got, words := a.do(x); got != want || words != want {
		t.Fatalf("%s: the last one is answered %v, by the words %v, not %v", x.row(), got, words, want)
	}
	x.same(t)
}

// same asks that store and disk are what they should be, by all that tells of them.
func (x *pair) same(t *testing.T) {
	t.Helper()
	if (x.s != nil) != x.p.opened {
		t.Fatalf("%s: a store: %v", x.row(), x.s != nil)
	}
	if s, want := x.s.State(), x.p.state(); !fact.Same(s, want) {
		t.Fatalf("%s: the state\n%+v\nnot\n%+v", x.row(), s, want)
	}
	if x.s.Loose() != x.p.unsynced {
		t.Fatalf("%s: loose: %v", x.row(), x.s.Loose())
	}
	log := x.p.firm + x.p.loose
	if b, e := x.d.Read(); e == api.OK && string(b) != log {
		t.Fatalf("%s: the log is %q, not %q", x.row(), b, log)
	}
	if x.d.Len() != len(log) || x.d.Firm() != len(x.p.firm) || x.d.Steps() != x.p.steps || x.d.Up() == x.p.out {
		t.Fatalf("%s: %d bytes, %d firm, %d steps, up %v, not %d, %d, %d, %v", x.row(),
			x.d.Len(), x.d.Firm(), x.d.Steps(), x.d.Up(), len(log), len(x.p.firm), x.p.steps, !x.p.out)
	}
}

// again asks that what was opened, opened again, has the same state, and that this is no step.
func (x *pair) again(t *testing.T) {
	t.Helper()
	steps := x.d.Steps()
	s, e := store.Open(x.d)
	if e != api.OK || !fact.Same(s.State(), x.s.State()) || s.Loose() || x.d.Steps() != steps {
		t.Fatalf("%s: opened again: %v, %+v, loose %v, %d steps, not %+v, %d", x.row(), e, s.State(), s.Loose(), x.d.Steps(), x.s.State(), steps)
	}
}
