package store_test

import (
	"bytes"
	"fmt"
	"math"
	"strings"
	"testing"

	"chartulary/api"
	"chartulary/disk"
	"chartulary/fact"
	"chartulary/store"
)

// each tells a fact of each kind that may be, so that each does something.
func each() []api.Fact {
	return []api.Fact{born(), boot(7), blob("a"), keep(5, "a"), hint(2, 5, "a"), blob("b"), hint(3, 6, "b"), done(3, 6, "b"), promise(5, 3, 1), accept(5, 4, 2, "v"), promise(5, 9, 3), decide(4, "w"), blob("c"), keep(8, "c"), drop(8)}
}

// wrong tells facts that may not be.
func wrong() []api.Fact {
	other := blob("a")
	other.ID[31]++
	more := born()
	more.Set = 1
	long := accept(1, 1, 1, strings.Repeat("l", 4001))
	return []api.Fact{{}, {Kind: -1}, {Kind: api.Facts}, {Kind: math.MaxInt}, {Kind: math.MinInt}, more, other, long, boot(0), boot(-1), keep(0, "a"), keep(math.MinInt, "a"), keep(1<<31, "a"),
		hint(0, 1, "a"), hint(65, 1, "a"), hint(1, 0, "a"), done(65, 1, "a"), promise(1, 0, 1), promise(1, 1, 0), promise(1, 1, 65), promise(0, 1, 1), blob(strings.Repeat("l", 1025)), decide(0, "v"), drop(0), drop(1 << 31)}
}

// The document's examples.
func TestExamples(t *testing.T) {
	d, _ := disk.New(1000)
	s, e := store.Open(d)
	answers := func(what string, got, want api.Errno) {
		t.Helper()
		if got != want {
			t.Errorf("%s: %v, not %v", what, got, want)
		}
	}
	answers("open", e, api.OK)
	answers("add", s.Add([]api.Fact{born(), blob("a")}), api.OK)
	if !s.Loose() || len(s.State().Blobs) != 1 {
		t.Errorf("loose %v, %+v", s.Loose(), s.State())
	}
	answers("add none", s.Add(nil), api.ErrArg)
	answers("add a keep of the set 0", s.Add([]api.Fact{keep(0, "a")}), api.ErrArg)
	answers("sync", s.Sync(), api.OK)
	if s.Loose() {
		t.Error("loose behind a sync")
	}
	answers("add a drop", s.Add([]api.Fact{drop(5)}), api.OK)
	answers("crash", d.Crash(3), api.OK)
	s, e = store.Open(d)
	answers("open", e, api.OK)
	if l := s.State().Blobs; len(l) != 1 || l[0].ID != idOf("a") || string(l[0].Data) != "a" {
		t.Errorf("blobs %+v", l)
	}
	d, _ = disk.New(12)
	s, e = store.Open(d)
	answers("open of 12 bytes", e, api.OK)
	answers("add", s.Add([]api.Fact{born(), blob("a")}), api.ErrFull)
	if s.State().Born {
		t.Error("born")
	}
	answers("compact", s.Compact(), api.OK)
}

// P10.1: an empty disk opens as the first state; one with facts as what they come to, whoever laid them, however many stand in a record; nothing is loose, and no step is done.
func TestOpen(t *testing.T) {
	x := begin(t, 0)
	x.asks(t, api.OK, opens())
	if !fact.Same(x.s.State(), api.State{}) || x.s.Loose() {
		t.Fatalf("of nothing: %+v, loose %v", x.s.State(), x.s.Loose())
	}
	l := each()
	for cut := 1; cut < len(l); cut++ {
		b := log(l[:cut], l[cut:])
		for _, b := range []string{b, single(l...)} {
			for _, firm := range []int{0, 1, len(log(l[:cut])), len(b)} {
				x := begin(t, 2000)
				x.do(t, lays(b[:firm]), hardens(), lays(b[firm:]), rooms(0), fuses(0))
				x.asks(t, api.OK, opens())
				if s := x.s.State(); !fact.Same(s, folded(l)) || s.Boot != 7 || x.d.Steps() != 3 || !x.d.Up() {
					t.Fatalf("%s: %+v", x.row(), s)
				}
				x.again(t)
			}
		}
	}
}

// P10.1: where a log is cut, the records ahead of that are left, and nothing behind it; a cut head or record is cut off the disk.
func TestOpenCut(t *testing.T) {
	b := log([]api.Fact{born(), blob("a")}, []api.Fact{keep(1, "a")}, []api.Fact{boot(3), hint(1, 2, "a"), decide(3, "x")})
	for cut := range len(b) + 1 {
		for _, firm := range []int{0, cut / 2, cut} {
			x := begin(t, 400)
			x.do(t, lays(b[:firm]), hardens(), lays(b[firm:cut]))
			x.asks(t, api.OK, opens())
			x.again(t)
			x.do(t, adds(promise(1, 2, 3)), syncs(), crashes(0), opens())
			x.again(t)
		}
	}
}

// none tells records that are none of facts.
func none() []string {
	plainFact, _ := bytesOf(blob("a"))
	kept, _ := bytesOf(keep(300, "a"))
	l := []string{
		"\x00",                 // none
		"\x00\x00",             // none, and more
		"\x01",                 // one that isn't there
		"\x01\x01",             // one of a byte that isn't there
		"\x01\x00",             // one of no bytes
		"\x01\x01\x00",         // of no kind
		"\x01\x01\x0b",         // of no kind
		"\x01\x02\x01\x00",     // a Born, and a byte in it
		"\x01\x01\x01\x00",     // a Born, and a byte behind it
		"\x02\x01\x01",         // a Born, and one that isn't there
		"\x02\x01\x01\x00",     // a Born, and one of no bytes
		"\x02\x01\x01\x01\x0b", // a Born, and one of no kind
		"\x81\x00\x01\x01",     // a number that is longer than it need be
		"\x01\x81\x00\x01",     // likewise
		"\x01\x02\x81\x00",     // likewise
		"\x80\x00",             // likewise
		"\x80",                 // a number that isn't all there
		strings.Repeat("\xff", 8) + "\x7f",
		strings.Repeat("\xff", 20),
		number(4001) + strings.Repeat("\x01\x01", 1999),
		number(1998) + strings.Repeat("\x01\x01", 1999),
		"\x01" + number(4001) + strings.Repeat("\x01", 3000),
		row("\x02\x00"), // a Boot of 0
		row("\x04\x00" + strings.Repeat("x", 32)), // a Keep of the set 0
		row("\x05\x41\x01" + strings.Repeat("x", 32)),
		row("\x0a\x80\x80\x80\x80\x08"), // a Drop of the set 2^31
		row("\x07\x01\x00\x01"),
		row("\x07\x01\x01"),
		row("\x03" + number(1025) + strings.Repeat("x", 1025)),
		plainFact,           // a fact alone
		row(row(plainFact)), // a record within one
		row(kept[:len(kept)-1]),
		row(kept + "x"),
		row(plainFact, kept) + "x",
		row(plainFact, kept)[:20],
		"a", "\xff", strings.Repeat("\x00", 4000), strings.Repeat("\x01", 4000),
	}
	return l
}

// P10.1: a record that is none of facts, or has none, is ErrCorrupt, wherever it stands; and the disk stays as it is, what is torn behind it, too.
func TestCorrupt(t *testing.T) {
	good := log([]api.Fact{born(), blob("a")}, []api.Fact{keep(1, "a")})
	for i, b := range none() {
		if _, is := factsOf(b); is {
			t.Fatalf("record %d is one of facts", i)
		}
		for _, ahead := range []string{"", good} {
			for _, behind := range []string{"", good, "torn", good + "torn", framed("\x00")} {
				log := ahead + framed(b) + behind
				x := begin(t, 20_000)
				x.do(t, lays(log[:len(log)/2]), hardens(), lays(log[len(log)/2:]), fuses(5))
				was := x.d.Copy()
				x.asks(t, api.ErrCorrupt, opens())
				if x.s != nil || x.d.Len() != was.Len() || x.d.Firm() != was.Firm() || x.d.Steps() != was.Steps() {
					t.Fatalf("%s: record %d: the disk is changed", x.row(), i)
				}
				x.do(t, opens(), hardens(), hardens(), hardens(), hardens(), hardens(), hardens())
				if x.d.Up() {
					t.Fatalf("%s: record %d: the fuse is changed", x.row(), i)
				}
			}
		}
	}
}

// P10.1: all short records, and longer ones of some few bytes, against the document's words.
func TestAllShortRecords(t *testing.T) {
	good := 0
	asks := func(b string) {
		l, is := factsOf(b)
		d, _ := disk.New(100)
		d.Append([]byte(framed(b)))
		s, e := store.Open(d)
		if is {
			good++
		}
		if is != (e == api.OK) || is != (s != nil) || !is && e != api.ErrCorrupt || is && !fact.Same(s.State(), folded(l)) {
			t.Fatalf("record %q: %v", b, e)
		}
	}
	for a := range 256 {
		asks(string([]byte{byte(a)}))
		for b := range 256 {
			asks(string([]byte{byte(a), byte(b)}))
			asks(string([]byte{1, byte(a), byte(b)}))
			asks(string([]byte{1, 2, byte(a), byte(b)}))
			asks(string([]byte{1, 3, byte(a), byte(b), 0}))
			asks(string([]byte{1, 4, 7, 1, byte(a), byte(b)}))
		}
	}
	few := []byte{0, 1, 2, 3, 9, 10, 128}
	for size := 3; size <= 6; size++ {
		rows := 1
		for range size {
			rows *= len(few)
		}
		for i := range rows {
			b := make([]byte, size)
			for at := range b {
				b[at] = few[i%len(few)]
				i /= len(few)
			}
			asks(string(b))
		}
	}
	if good < 500 {
		t.Fatalf("%d records of facts alone", good)
	}
}

// P10.1: any byte of a record turned, cut or put in: told by the document's words.
func TestTurnedRecords(t *testing.T) {
	b, _ := recordOf(each())
	asks := func(turned string) {
		t.Helper()
		x := begin(t, 3000)
		x.do(t, lays(framed(turned)), opens())
	}
	for at := range len(b) {
		for _, turn := range []byte{1, 2, 4, 128, 255} {
			asks(b[:at] + string([]byte{b[at] ^ turn}) + b[at+1:])
		}
		if at > 0 {
			asks(b[:at])
		}
		asks(b[:at] + b[at+1:])
		asks(b[:at] + "\x01" + b[at:])
	}
	asks(b + "\x00")
}

// P10.1: the journal's error comes first, ahead of ErrCorrupt too, and leaves the disk as the journal does.
func TestOpenJournal(t *testing.T) {
	for _, record := range []string{"a", row("\x01")} {
		b := framed(record) + "torn"
		want := api.ErrCorrupt
		if record != "a" {
			want = api.OK
		}
		for room := len(b); room <= 2*len(b); room++ {
			x := begin(t, 100)
			x.do(t, lays(b), rooms(room))
			if room < 2*len(b)-4 {
				x.asks(t, api.ErrFull, opens())
			} else {
				x.asks(t, want, opens())
			}
		}
		for fuse := range 4 {
			x := begin(t, 100)
			x.do(t, lays(b), fuses(fuse))
			if fuse < 2 {
				x.asks(t, api.ErrBroken, opens())
				x.asks(t, api.ErrBroken, opens())
				x.do(t, crashes(99))
			}
			x.asks(t, want, opens())
		}
		x := begin(t, 100)
		x.do(t, lays(b), fuses(0), hardens())
		x.asks(t, api.ErrBroken, opens())
	}
}

// P10.1 and rule 5: what is no disk has no store.
func TestOpenNone(t *testing.T) {
	d, _ := disk.New(100)
	d.Append([]byte(framed("a") + "torn"))
	fields := *d
	for what, none := range map[string]*disk.Disk{"nil": nil, "nobody's": {}, "a copy of the fields": &fields} {
		if s, e := store.Open(none); s != nil || e != api.ErrNil {
			t.Errorf("open of %s: %v, %v", what, s, e)
		}
	}
}

// P10.2: facts of each kind, alone and together, are added as one record, loose; the state is the one behind them.
func TestAdd(t *testing.T) {
	l := each()
	for from := range l {
		for to := from + 1; to <= len(l); to++ {
			x := begin(t, 2000)
			x.asks(t, api.OK, opens())
			x.do(t, adds(l[:from]...))
			steps := x.d.Steps()
			x.asks(t, api.OK, adds(l[from:to]...))
			if x.d.Steps() != steps+1 || !x.s.Loose() || !fact.Same(x.s.State(), folded(l[:to])) {
				t.Fatalf("%s: %d steps, loose %v, %+v", x.row(), x.d.Steps()-steps, x.s.Loose(), x.s.State())
			}
			x.again(t)
			x.do(t, adds(l[to:]...))
			x.again(t)
		}
	}
}

// P10.2: facts that do nothing are added too, and make the store loose.
func TestAddNothingNew(t *testing.T) {
	x := begin(t, 2000)
	x.do(t, opens(), adds(born()), syncs())
	for _, f := range []api.Fact{born(), drop(9), done(1, 1, "a"), keep(1, "a"), hint(1, 1, "a")} {
		x.asks(t, api.OK, adds(f))
		if !x.s.Loose() || !fact.Same(x.s.State(), api.State{Born: true}) {
			t.Fatalf("%s: loose %v, %+v", x.row(), x.s.Loose(), x.s.State())
		}
		x.asks(t, api.OK, syncs())
	}
	x.again(t)
}

// P10.2: no facts, and one that may not be, wherever it stands: ErrArg, ahead of all other errors, and nothing of them is done.
func TestAddWrong(t *testing.T) {
	long := accept(1, 1, 1, strings.Repeat("l", 4000))
	many := make([]api.Fact, 5000)
	for i := range many {
		many[i] = born()
	}
	x := begin(t, 500)
	x.do(t, opens(), adds(born(), blob("a")))
	asks := func() {
		t.Helper()
		x.asks(t, api.ErrArg, adds())
		x.asks(t, api.ErrArg, adds([]api.Fact{}...))
		for _, f := range wrong() {
			x.asks(t, api.ErrArg, adds(f))
			x.asks(t, api.ErrArg, adds(boot(5), f))
			x.asks(t, api.ErrArg, adds(f, boot(5)))
			x.asks(t, api.ErrArg, adds(long, long, f))
			x.asks(t, api.ErrArg, adds(append(many[:4999:4999], f)...))
		}
	}
	asks()
	x.do(t, rooms(0))
	asks()
	x.do(t, fuses(0), syncs())
	asks()
}

// P10.2: a record has up to 4,000 bytes, of one fact or of many; with more it is ErrLong, ahead of what disk and state can't.
func TestAddLong(t *testing.T) {
	asks := func(x *pair, want, least api.Errno) {
		t.Helper()
		for size := 3980; size <= 4000; size++ {
			// An Accept of these numbers has six bytes beside its data, with a record's number and a fact's it is nine.
			e := want
			if size+9 > 4000 {
				e = api.ErrLong
			}
			x.asks(t, e, adds(accept(1, 1, 1, strings.Repeat("l", size))))
			if size+11 > 4000 {
				e = api.ErrLong
			}
			x.asks(t, e, adds(accept(1, 1, 1, strings.Repeat("l", size)), born()))
		}
		for _, n := range []int{1998, 1999, 2000, 3999, 4000, 4001, 10_000} {
			l := make([]api.Fact, n)
			for i := range l {
				l[i] = born()
			}
			e := least
			// The number of facts has two bytes, each Born two.
			if 2+2*n > 4000 {
				e = api.ErrLong
			}
			x.asks(t, e, adds(l...))
		}
	}
	x := begin(t, 1_000_000)
	x.do(t, opens())
	asks(x, api.OK, api.OK)
	x.again(t)
	x.do(t, syncs(), rooms(10))
	asks(x, api.ErrFull, api.ErrFull)
	x.do(t, rooms(1_000_000), adds(boot(1)), fuses(0), syncs())
	asks(x, api.ErrBroken, api.ErrBroken)
}

// P10.2: the journal's error is told, and has changed nothing of the state; what is loose stays so, what is not too.
func TestAddJournal(t *testing.T) {
	b := single(boot(5))
	for room := range 40 {
		x := begin(t, room)
		x.do(t, opens(), adds(boot(5)), adds(born()), adds(boot(6)), syncs(), adds(boot(7)), adds(drop(1)))
		if there := x.s.State().Boot == 0; there != (room < len(b)) {
			t.Fatalf("%s: %+v", x.row(), x.s.State())
		}
		x.again(t)
	}
	for _, synced := range []bool{false, true} {
		x := begin(t, 1000)
		x.do(t, opens(), adds(born(), blob("a")))
		if synced {
			x.do(t, syncs())
		}
		x.do(t, fuses(0))
		x.asks(t, api.ErrBroken, adds(keep(1, "a")))
		x.asks(t, api.ErrBroken, adds(boot(3)))
		if s := x.s.State(); x.s.Loose() == synced || len(s.Blobs) != 1 || len(s.Keeps) != 0 || s.Boot != 0 {
			t.Fatalf("%s: loose %v, %+v", x.row(), x.s.Loose(), s)
		}
		x.do(t, crashes(1000), opens())
		if s := x.s.State(); len(s.Keeps) != 1 || s.Boot != 0 {
			t.Fatalf("%s: %+v", x.row(), s)
		}
	}
}

// P10.3: a Sync of what is not loose is OK and no step, of a disk that is out too; of what is loose it is one step, and its error leaves it loose.
func TestSync(t *testing.T) {
	x := begin(t, 1000)
	x.do(t, opens())
	x.asks(t, api.OK, syncs())
	x.do(t, adds(born()), adds(boot(2)))
	x.asks(t, api.OK, syncs())
	x.asks(t, api.OK, syncs())
	if x.d.Steps() != 3 || x.s.Loose() || x.d.Firm() != x.d.Len() {
		t.Fatalf("%s: %d steps, loose %v", x.row(), x.d.Steps(), x.s.Loose())
	}
	x.do(t, fuses(0))
	x.asks(t, api.OK, syncs())
	x.asks(t, api.ErrBroken, adds(boot(3)))
	x.asks(t, api.OK, syncs())
	x.do(t, crashes(0), opens(), adds(boot(4)), fuses(0))
	x.asks(t, api.ErrBroken, syncs())
	x.asks(t, api.ErrBroken, syncs())
	if !x.s.Loose() || x.s.State().Boot != 4 {
		t.Fatalf("%s: loose %v, %+v", x.row(), x.s.Loose(), x.s.State())
	}
	x.do(t, crashes(0), opens())
	if x.s.State().Boot != 2 {
		t.Fatalf("%s: %+v", x.row(), x.s.State())
	}
}

// P10.3: a Compact lays the facts that come to the state, one a record, firm, by two steps, even if there are none or all is so already; the state stays.
func TestCompact(t *testing.T) {
	l := each()
	for n := range len(l) + 1 {
		for _, synced := range []bool{false, true} {
			x := begin(t, 4000)
			x.do(t, opens(), adds(l[:n/2]...), adds(l[n/2:n]...))
			if synced {
				x.do(t, syncs())
			}
			was := x.s.State()
			for range 2 {
				steps := x.d.Steps()
				x.asks(t, api.OK, compacts())
				b, _ := x.d.Read()
				if string(b) != single(fact.Facts(was)...) || x.d.Firm() != len(b) || x.d.Steps() != steps+2 || x.s.Loose() || !fact.Same(x.s.State(), was) {
					t.Fatalf("%s: %d steps, loose %v, %q", x.row(), x.d.Steps()-steps, x.s.Loose(), b)
				}
				x.again(t)
			}
			x.do(t, adds(l[n/2:]...), syncs(), crashes(0), opens())
			x.again(t)
		}
	}
}

// P10.3: a Compact needs room beside the log, to the last byte; without it, and where a fuse burns, all stays as it was, loose or not.
func TestCompactJournal(t *testing.T) {
	l := []api.Fact{born(), boot(5), blob("a"), keep(1, "a"), keep(2, "a"), drop(2)}
	now := len(single(l[:4]...))
	for _, synced := range []bool{false, true} {
		x := begin(t, 1000)
		x.do(t, opens(), adds(l...))
		if synced {
			x.do(t, syncs())
		}
		is := x.d.Len() + now
		x.do(t, rooms(is-1))
		x.asks(t, api.ErrFull, compacts())
		if x.s.Loose() == synced {
			t.Fatalf("%s: loose %v", x.row(), x.s.Loose())
		}
		x.again(t)
		x.do(t, rooms(is))
		x.asks(t, api.OK, compacts())
		x.again(t)
	}
	for fuse := range 4 {
		for _, kept := range []int{0, 5, 9, 20, 300} {
			x := begin(t, 1000)
			x.do(t, opens(), adds(l...), syncs(), adds(boot(6)), fuses(fuse), compacts())
			if x.s.Loose() != (fuse < 2) || x.d.Up() != (fuse > 1) {
				t.Fatalf("%s: loose %v", x.row(), x.s.Loose())
			}
			want := 5
			if fuse > 1 || kept > 9 {
				want = 6
			}
			x.do(t, compacts(), crashes(kept), opens())
			if s := x.s.State(); s.Boot != want || len(s.Keeps) != 1 {
				t.Fatalf("%s: %+v", x.row(), s)
			}
			x.again(t)
		}
	}
}

// P10.3: facts of records up to the longest one are compacted, each in one of its own.
func TestCompactLong(t *testing.T) {
	long := strings.Repeat("l", 3991)
	x := begin(t, 50_000)
	x.do(t, opens())
	x.asks(t, api.OK, adds(accept(1, 1, 1, long)))
	x.asks(t, api.OK, adds(accept(2, 1, 1, long)))
	x.asks(t, api.OK, adds(decide(3, long)))
	x.asks(t, api.OK, adds(blob(long[:1024])))
	x.asks(t, api.OK, compacts())
	x.asks(t, api.OK, syncs())
	x.do(t, crashes(0), opens())
	if s := x.s.State(); len(s.Votes) != 2 || len(s.Decisions) != 1 || len(s.Blobs) != 1 {
		t.Fatalf("%s: %+v", x.row(), s)
	}
}

// P10.1 to P10.3 and rule 5: nothing is told and nothing done of what is nil, of what nobody opened, and of a copy of the fields.
func TestNone(t *testing.T) {
	x := begin(t, 1000)
	x.do(t, opens(), adds(each()...), syncs(), adds(boot(9)))
	fields := *x.s
	refused, _ := store.Open(nil)
	for what, s := range map[string]*store.Store{"nil": nil, "nobody's": {}, "new": new(store.Store), "a copy of the fields": &fields, "refused": refused} {
		for name, e := range map[string]api.Errno{
			"Add": s.Add([]api.Fact{born()}), "Add nothing": s.Add(nil), "Add what may not be": s.Add([]api.Fact{{}}), "Sync": s.Sync(), "Compact": s.Compact(),
		} {
			if e != api.ErrNil {
				t.Errorf("%s of %s: %v", name, what, e)
			}
		}
		if got := s.State(); !fact.Same(got, api.State{}) || s.Loose() {
			t.Errorf("%s: %+v, loose %v", what, got, s.Loose())
		}
	}
	x.same(t)
}

// A store whose disk is somebody's fields by now answers as the disk does.
func TestDiskGone(t *testing.T) {
	d, _ := disk.New(100)
	s, _ := store.Open(d)
	s.Add([]api.Fact{born()})
	*d = disk.Disk{}
	if s.Add([]api.Fact{boot(1)}) != api.ErrNil || s.Add(nil) != api.ErrArg || s.Sync() != api.ErrNil || s.Compact() != api.ErrNil || !s.Loose() || !s.State().Born || s.State().Boot != 0 {
		t.Errorf("loose %v, %+v", s.Loose(), s.State())
	}
}

// spoil turns all memory of a state, its spare room too.
func spoil(s api.State) {
	for i := range s.Blobs[:cap(s.Blobs)] {
		x := &s.Blobs[:cap(s.Blobs)][i]
		spoilBytes(x.Data)
		*x = api.Blob{ID: idOf("spoilt")}
	}
	for i := range s.Keeps[:cap(s.Keeps)] {
		s.Keeps[:cap(s.Keeps)][i] = api.Keep{Set: -1}
	}
	for i := range s.Hints[:cap(s.Hints)] {
		s.Hints[:cap(s.Hints)][i] = api.Hint{Set: -1}
	}
	for i := range s.Votes[:cap(s.Votes)] {
		x := &s.Votes[:cap(s.Votes)][i]
		spoilBytes(x.Data)
		*x = api.Vote{Set: -1}
	}
	for i := range s.Decisions[:cap(s.Decisions)] {
		x := &s.Decisions[:cap(s.Decisions)][i]
		spoilBytes(x.Data)
		*x = api.Decision{Set: -1}
	}
}

func spoilBytes(b []byte) {
	for i := range b[:cap(b)] {
		b[:cap(b)][i] = '!'
	}
}

// Rule 4: what is handed in is neither kept nor changed, its spare room neither; what is told is new memory, and shares none.
func TestMemory(t *testing.T) {
	d, _ := disk.New(4000)
	s, _ := store.Open(d)
	data := []byte("abcdefgh")
	given := []api.Fact{born(), {Kind: api.FactBlob, ID: idOf("ab"), Data: data[0:2]}, keep(1, "ab"), hint(2, 3, "ab"), {Kind: api.FactAccept, Set: 4, Ballot: api.Ballot{N: 5, Node: 6}, Data: data[2:4]}, {Kind: api.FactDecide, Set: 7, Data: data[4:6]}, boot(1)}
	want := folded(given)
	if e := s.Add(given[:6]); e != api.OK || string(data) != "abcdefgh" || given[6].Set != 1 || given[6].Kind != api.FactBoot {
		t.Fatalf("%v, given %q, %+v", e, data, given)
	}
	want.Boot = 0
	spoilBytes(data)
	clear(given)
	holds := func() {
		t.Helper()
		first, second := s.State(), s.State()
		spoil(first)
		if !fact.Same(second, want) || !fact.Same(s.State(), want) {
			t.Fatalf("%+v, %+v, not %+v", second, s.State(), want)
		}
		twin, e := store.Open(d)
		if e != api.OK || !fact.Same(twin.State(), want) {
			t.Fatalf("opened again: %v, %+v, not %+v", e, twin.State(), want)
		}
	}
	holds()
	told := s.State()
	s.Add([]api.Fact{blob("x"), keep(1, "x"), drop(3), boot(9), accept(4, 6, 1, "new"), decide(1, "y")})
	s.Compact()
	if !fact.Same(told, want) {
		t.Fatalf("the store changed what it told: %+v, not %+v", told, want)
	}
	want = s.State()
	holds()
	l := s.State()
	for i := range l.Blobs {
		_ = append(l.Blobs[i].Data, "!!!!!!!!!!!!!!!!"...)
	}
	_ = append(l.Votes[0].Data, "!!!!!!!!!!!!!!!!"...)
	for i := range l.Decisions {
		_ = append(l.Decisions[i].Data, "!!!!!!!!!!!!!!!!"...)
	}
	if !fact.Same(l, want) {
		t.Fatalf("what is told shares memory: %+v", l)
	}
}

// Two stores over one disk, one behind the other: the later one has what the earlier one left, and goes on from there.
func TestOneBehindTheOther(t *testing.T) {
	x := begin(t, 1000)
	x.do(t, opens(), adds(born()), opens(), adds(boot(2)), syncs(), opens(), compacts(), opens(), adds(blob("a")), opens())
	if s := x.s.State(); !s.Born || s.Boot != 2 || len(s.Blobs) != 1 || x.s.Loose() {
		t.Fatalf("%s: %+v", x.row(), s)
	}
}

// A state's bytes are told as they are, whatever bytes these are.
func TestBytes(t *testing.T) {
	x := begin(t, 10_000)
	x.do(t, opens())
	for i, b := range []string{"", "\x00", "\xff\xfe", framed("a"), strings.Repeat("\x00", 1024)} {
		x.asks(t, api.OK, adds(blob(b), accept(i+1, 1, 1, b), decide(i+1, b)))
		s := x.s.State()
		if !bytes.Equal(s.Votes[i].Data, []byte(b)) || !bytes.Equal(s.Decisions[i].Data, []byte(b)) {
			t.Fatalf("%s: %+v", fmt.Sprintf("%q", b), s)
		}
	}
	x.asks(t, api.OK, compacts())
	x.again(t)
}
