package journal_test

import (
	"encoding/binary"
	"fmt"
	"hash/crc32"
	"math"
	"math/rand"
	"slices"
	"strings"
	"testing"

	"chartulary/api"
	"chartulary/disk"
	"chartulary/journal"
)

// framed tells a record's frame by the document's words.
func framed(b string) string {
	head := binary.LittleEndian.AppendUint32(nil, uint32(len(b)))
	head = binary.LittleEndian.AppendUint32(head, crc32.ChecksumIEEE([]byte(b)))
	return string(head) + b
}

// joined tells all records' frames, one behind the other.
func joined(l []string) string {
	out := ""
	for _, b := range l {
		out += framed(b)
	}
	return out
}

// split tells the records of a log up to the first place where no frame stands, and that place.
func split(log string) ([]string, int) {
	var l []string
	at := 0
	for {
		rest := log[at:]
		if len(rest) < 8 {
			return l, at
		}
		n := int(binary.LittleEndian.Uint32([]byte(rest)))
		if n < 1 || n > 4000 || len(rest) < 8+n || framed(rest[8:8+n]) != rest[:8+n] {
			return l, at
		}
		l = append(l, rest[8:8+n])
		at += 8 + n
	}
}

// wrong tells what a record may not be, if anything.
func wrong(l ...string) api.Errno {
	for _, b := range l {
		if len(b) == 0 {
			return api.ErrArg
		}
		if len(b) > 4000 {
			return api.ErrLong
		}
	}
	return api.OK
}

// plain is a disk and a journal over it as the document's words say: texts that are firm, loose and next, and a list of records.
type plain struct {
	firm, loose, next string
	room, fuse, steps int
	fused, out        bool
	opened            bool
	records           []string
}

// burns counts a step, and tells whether the disk is out from it on.
func (p *plain) burns() bool {
	p.steps++
	if p.fused && p.fuse == 0 {
		p.out = true
	}
	p.fuse--
	return p.out
}

// lays tells what the laying of bytes answers, and lays them in one of the areas.
func (p *plain) lays(area *string, b string) api.Errno {
	if p.out {
		return api.ErrBroken
	}
	if len(p.firm+p.loose+p.next+b) > p.room {
		return api.ErrFull
	}
	*area += b
	if p.burns() {
		return api.ErrBroken
	}
	return api.OK
}

// rewrites tells what a rewriting answers, and does it.
func (p *plain) rewrites(l []string) api.Errno {
	if e := wrong(l...); e != api.OK {
		return e
	}
	if e := p.lays(&p.next, joined(l)); e != api.OK {
		return e
	}
	if p.burns() {
		return api.ErrBroken
	}
	p.firm, p.loose, p.next = p.next, "", ""
	p.records = l
	return api.OK
}

// opens tells what an Open answers, and does it.
func (p *plain) opens() api.Errno {
	p.opened, p.records = false, nil
	if p.out {
		return api.ErrBroken
	}
	l, at := split(p.firm + p.loose)
	if at < len(p.firm+p.loose) {
		if e := p.rewrites(l); e != api.OK {
			return e
		}
	}
	p.opened, p.records = true, l
	return api.OK
}

// firmOnes tells how many records are firm.
func (p *plain) firmOnes() int {
	n := 0
	for n < len(p.records) && len(joined(p.records[:n+1])) <= len(p.firm) {
		n++
	}
	return n
}

// pair is a disk and a journal over it, if it has one, and what they should be; done tells what was done to both.
type pair struct {
	d    *disk.Disk
	j    *journal.Journal
	p    plain
	done []string
}

// act is one call, done to both; it tells both answers.
type act struct {
	name string
	do   func(x *pair) (got, want api.Errno)
}

// short tells a text for a list of acts.
func short(b string) string {
	if len(b) > 20 {
		return fmt.Sprintf("%q.. of %d bytes", b[:20], len(b))
	}
	return fmt.Sprintf("%q", b)
}

func appends(b string) act {
	return act{"Append(" + short(b) + ")", func(x *pair) (api.Errno, api.Errno) {
		got := x.j.Append([]byte(b))
		if !x.p.opened {
			return got, api.ErrNil
		}
		if e := wrong(b); e != api.OK {
			return got, e
		}
		want := x.p.lays(&x.p.loose, framed(b))
		if want == api.OK {
			x.p.records = append(slices.Clip(x.p.records), b)
		}
		return got, want
	}}
}

func syncs() act {
	return act{"Sync", func(x *pair) (api.Errno, api.Errno) {
		got := x.j.Sync()
		if !x.p.opened {
			return got, api.ErrNil
		}
		if x.p.out || x.p.burns() {
			return got, api.ErrBroken
		}
		x.p.firm, x.p.loose = x.p.firm+x.p.loose, ""
		return got, api.OK
	}}
}

func rewrites(l ...string) act {
	var given [][]byte
	name := "Rewrite("
	for _, b := range l {
		given = append(given, []byte(b))
		name += short(b) + ";"
	}
	return act{name + ")", func(x *pair) (api.Errno, api.Errno) {
		got := x.j.Rewrite(given)
		if !x.p.opened {
			return got, api.ErrNil
		}
		return got, x.p.rewrites(l)
	}}
}

func opens() act {
	return act{"Open", func(x *pair) (got, want api.Errno) {
		x.j, got = journal.Open(x.d)
		return got, x.p.opens()
	}}
}

// crashes has the disk crash; whatever journal there was is no more.
func crashes(kept int) act {
	return act{fmt.Sprintf("Crash(%d)", kept), func(x *pair) (api.Errno, api.Errno) {
		p := &x.p
		p.firm += p.loose[:min(kept, len(p.loose))]
		p.loose, p.next = "", ""
		p.fused, p.out, p.opened, p.records = false, false, false, nil
		x.j = nil
		return x.d.Crash(kept), api.OK
	}}
}

func fuses(n int) act {
	return act{fmt.Sprintf("Fuse(%d)", n), func(x *pair) (api.Errno, api.Errno) {
		x.p.fused, x.p.fuse = true, n
		return x.d.Fuse(n), api.OK
	}}
}

func rooms(n int) act {
	return act{fmt.Sprintf("Room(%d)", n), func(x *pair) (api.Errno, api.Errno) {
		x.p.room = n
		return x.d.Room(n), api.OK
	}}
}

// lays has bytes at the end of the log without a journal, as what is torn comes there.
func lays(b string) act {
	return act{"disk.Append(" + short(b) + ")", func(x *pair) (api.Errno, api.Errno) {
		return x.d.Append([]byte(b)), x.p.lays(&x.p.loose, b)
	}}
}

// hardens has the log firm without a journal.
func hardens() act {
	return act{"disk.Sync", func(x *pair) (api.Errno, api.Errno) {
		if x.p.out || x.p.burns() {
			return x.d.Sync(), api.ErrBroken
		}
		x.p.firm, x.p.loose = x.p.firm+x.p.loose, ""
		return x.d.Sync(), api.OK
	}}
}

// begin tells an empty disk of a room, with no journal yet, and what it should be.
func begin(t *testing.T, room int) *pair {
	t.Helper()
	d, e := disk.New(room)
	if d == nil || e != api.OK {
		t.Fatalf("new of room %d: %v", room, e)
	}
	return &pair{d: d, p: plain{room: room}}
}

// row tells what was done.
func (x *pair) row() string {
	return strings.Join(x.done, ", ")
}

// do does acts one by one, each of which must be answered as the words say, and leave what they say.
func (x *pair) do(t *testing.T, acts ...act) {
	t.Helper()
	for _, a := range acts {
		x.done = append(x.done, a.name)
		if got, want := a.do(x); got != want {
			t.Fatalf("%s: the last one is answered %v, not %v", x.row(), got, want)
		}
		x.same(t)
	}
}

// texts tells a journal's records.
func texts(j *journal.Journal) []string {
	var l []string
	for _, b := range j.All() {
		l = append(l, string(b))
	}
	return l
}

// same asks that journal and disk are what they should be, by all that tells of them.
func (x *pair) same(t *testing.T) {
	t.Helper()
	if l := texts(x.j); !slices.Equal(l, x.p.records) {
		t.Fatalf("%s: records %q, not %q", x.row(), l, x.p.records)
	}
	if n, firm := x.j.Len(), x.j.Firm(); n != len(x.p.records) || firm != x.p.firmOnes() {
		t.Fatalf("%s: %d records, %d firm, not %d, %d", x.row(), n, firm, len(x.p.records), x.p.firmOnes())
	}
	if (x.j != nil) != x.p.opened {
		t.Fatalf("%s: a journal: %v", x.row(), x.j != nil)
	}
	log := x.p.firm + x.p.loose
	if b, e := x.d.Read(); e == api.OK && string(b) != log {
		t.Fatalf("%s: the log is %q, not %q", x.row(), b, log)
	}
	if x.d.Len() != len(log) || x.d.Firm() != len(x.p.firm) || x.d.Steps() != x.p.steps || x.d.Up() == x.p.out {
		t.Fatalf("%s: %d bytes, %d firm, %d steps, up %v, not %d, %d, %d, %v", x.row(),
			x.d.Len(), x.d.Firm(), x.d.Steps(), x.d.Up(), len(log), len(x.p.firm), x.p.steps, !x.p.out)
	}
}

// again asks that what was opened, opened again, is the same, and that this is no step.
func (x *pair) again(t *testing.T) {
	t.Helper()
	steps := x.d.Steps()
	j, e := journal.Open(x.d)
	if e != api.OK || !slices.Equal(texts(j), texts(x.j)) || j.Len() != x.j.Len() || j.Firm() != x.j.Firm() || x.d.Steps() != steps {
		t.Fatalf("%s: opened again: %v, %q, %d firm, %d steps, not %q, %d, %d", x.row(), e, texts(j), j.Firm(), x.d.Steps(), texts(x.j), x.j.Firm(), steps)
	}
}

// The document's examples.
func TestExamples(t *testing.T) {
	d, _ := disk.New(100)
	j, e := journal.Open(d)
	answers := func(what string, got, want api.Errno) {
		t.Helper()
		if got != want {
			t.Errorf("%s: %v, not %v", what, got, want)
		}
	}
	answers("open", e, api.OK)
	answers("append a", j.Append([]byte("a")), api.OK)
	answers("sync", j.Sync(), api.OK)
	answers("append b c", j.Append([]byte("b c")), api.OK)
	if j.Len() != 2 || j.Firm() != 1 {
		t.Errorf("%d records, %d firm", j.Len(), j.Firm())
	}
	answers("crash", d.Crash(5), api.OK)
	j, e = journal.Open(d)
	answers("open", e, api.OK)
	if l := texts(j); !slices.Equal(l, []string{"a"}) {
		t.Errorf("records %q", l)
	}
	answers("rewrite", j.Rewrite([][]byte{[]byte("x"), []byte("y z")}), api.OK)
	if l := texts(j); !slices.Equal(l, []string{"x", "y z"}) || j.Firm() != 2 {
		t.Errorf("records %q, %d firm", l, j.Firm())
	}
	answers("append none", j.Append(nil), api.ErrArg)
	answers("append 80 bytes", j.Append(make([]byte, 80)), api.ErrFull)
	none, e := journal.Open(nil)
	answers("open none", e, api.ErrNil)
	if none != nil {
		t.Error("a journal of no disk")
	}
	answers("fuse", d.Fuse(0), api.OK)
	answers("append q", j.Append([]byte("q")), api.ErrBroken)
	answers("append q", j.Append([]byte("q")), api.ErrBroken)
	out, e := journal.Open(d)
	answers("open", e, api.ErrBroken)
	if out != nil {
		t.Error("a journal of a disk that is out")
	}
}

// P8.1: a log of whole frames is opened as it is: no step is done, what is loose stays loose, and room and fuse don't count.
func TestOpenWhole(t *testing.T) {
	for _, l := range [][]string{nil, {"a"}, {"a", "bc"}, {strings.Repeat("x", 4000), "\x00", strings.Repeat("\x00", 8)}} {
		for firm := range len(l) + 1 {
			x := begin(t, 5000)
			x.do(t, lays(joined(l[:firm])), hardens(), lays(joined(l[firm:])), rooms(0), fuses(0), opens())
			if x.d.Steps() != 3 || !x.d.Up() || x.j.Firm() != firm || !slices.Equal(texts(x.j), l) {
				t.Fatalf("%s: %d steps, up %v, %d firm", x.row(), x.d.Steps(), x.d.Up(), x.j.Firm())
			}
			x.again(t)
		}
	}
}

// P8.1: where a log is cut, in a head or in a record, what is ahead of that frame is left, and rewritten by two steps.
func TestOpenCut(t *testing.T) {
	log, places := joined([]string{"a", "bcd", "ef"}), []int{0, 9, 20, 30}
	for cut := range len(log) + 1 {
		for firm := range cut + 1 {
			x := begin(t, 60)
			x.do(t, lays(log[:firm]), hardens(), lays(log[firm:cut]), opens())
			whole := slices.Contains(places, cut)
			if (x.d.Steps() == 3) != whole || (x.d.Steps() == 5) == whole {
				t.Fatalf("%s: %d steps", x.row(), x.d.Steps())
			}
			if !whole && x.j.Firm() != x.j.Len() {
				t.Fatalf("%s: %d firm of %d", x.row(), x.j.Firm(), x.j.Len())
			}
			x.again(t)
			x.do(t, appends("g"), syncs(), crashes(0), opens())
			x.again(t)
		}
	}
}

// P8.1: where any one byte of a log is not what it was, what is ahead of that frame is left; whole frames behind it are not.
func TestOpenTurned(t *testing.T) {
	log := joined([]string{"a", "bcd", "ef"})
	for at := range log {
		for _, turn := range []byte{1, 8, 128, 255} {
			turned := []byte(log)
			turned[at] ^= turn
			x := begin(t, 60)
			x.do(t, lays(string(turned)), opens())
			want := 0
			for _, end := range []int{9, 20} {
				if at >= end {
					want++
				}
			}
			if x.j.Len() != want || x.j.Firm() != want || x.d.Steps() != 3 {
				t.Fatalf("%s: byte %d: %d records, %d firm, %d steps", x.row(), at, x.j.Len(), x.j.Firm(), x.d.Steps())
			}
			x.again(t)
		}
	}
}

// P8.1: what stands behind frames and is none, short and long, is cut off.
func TestOpenTail(t *testing.T) {
	for _, tail := range []string{"\x00", strings.Repeat("\x00", 8), strings.Repeat("\x00", 5000), framed("x")[1:], "\x01\x00\x00\x00" + framed("x"), "\xa1\x0f\x00\x00" + strings.Repeat("y", 4005), "\xff\xff\xff\xff" + strings.Repeat("z", 100)} {
		for _, l := range [][]string{nil, {"a"}, {"a", "bc", strings.Repeat("d", 4000)}} {
			x := begin(t, 20_000)
			x.do(t, lays(joined(l)+tail), opens())
			if !slices.Equal(texts(x.j), l) || x.d.Len() != len(joined(l)) {
				t.Fatalf("%s: %q", x.row(), texts(x.j))
			}
			x.again(t)
		}
	}
}

// P8.1: a rewriting in Open needs room beside the log, to the last byte; without it that is told, and the log stays as it was.
func TestOpenFull(t *testing.T) {
	log := joined([]string{"a", "bc"}) + "torn"
	for room := len(log); room < 2*len(log); room++ {
		x := begin(t, 100)
		x.do(t, lays(log), rooms(room), opens())
		if full := room < len(log)+len(log)-4; full != (x.j == nil) || full != (x.d.Steps() == 1) {
			t.Fatalf("%s: a journal %v, %d steps", x.row(), x.j != nil, x.d.Steps())
		}
		x.do(t, rooms(100), opens())
		x.again(t)
	}
	x := begin(t, 100)
	x.do(t, lays("torn"), rooms(4), opens(), rooms(100), crashes(0), lays("torn"), rooms(3), opens(), rooms(0), opens(), rooms(4), opens())
}

// P8.1, P8.4: a fuse that burns in Open's rewriting is told, and leaves the log for the next Open, which finds the same.
func TestOpenFuse(t *testing.T) {
	for fuse := range 4 {
		for kept := range 12 {
			x := begin(t, 100)
			x.do(t, lays(framed("a")+framed("b")[:5]), hardens(), lays(framed("b")[5:]+framed("cd")[:7]), fuses(fuse), opens())
			if (x.j != nil) != (fuse > 1) || x.d.Up() != (fuse > 1) {
				t.Fatalf("%s: a journal %v", x.row(), x.j != nil)
			}
			x.do(t, opens(), appends("e"), syncs(), crashes(kept), opens())
			if fuse < 2 && x.j.Len() != 1+kept/4 && kept < 8 {
				t.Fatalf("%s: %d records", x.row(), x.j.Len())
			}
			x.again(t)
		}
	}
}

// P8.1 and rule 5: what is no disk has no journal; a disk that is out has none till its crash.
func TestOpenNone(t *testing.T) {
	d, _ := disk.New(100)
	d.Append([]byte("torn"))
	fields := *d
	for what, none := range map[string]*disk.Disk{"nil": nil, "nobody's": {}, "a copy of the fields": &fields} {
		if j, e := journal.Open(none); j != nil || e != api.ErrNil {
			t.Errorf("open of %s: %v, %v", what, j, e)
		}
	}
	x := begin(t, 100)
	x.do(t, lays(framed("a")), fuses(0), hardens(), opens(), crashes(9), opens())
	if x.j.Len() != 1 {
		t.Fatalf("%s: %d records", x.row(), x.j.Len())
	}
}

// P8.2: a record has from 1 to 4,000 bytes, whatever bytes these are; what it is not is told ahead of what the disk can't.
func TestAppend(t *testing.T) {
	x := begin(t, 20_000)
	x.do(t, opens())
	for _, b := range []string{"a", "\x00", "\xff", framed("a"), strings.Repeat("\x00", 8), strings.Repeat("b", 3999), strings.Repeat("c", 4000)} {
		x.do(t, appends(b), appends(""), appends(strings.Repeat("d", 4001)), appends(strings.Repeat("e", 10_000)))
		if x.j.Firm() != 0 {
			t.Fatalf("%s: %d firm", x.row(), x.j.Firm())
		}
	}
	if x.d.Steps() != 7 {
		t.Fatalf("%s: %d steps", x.row(), x.d.Steps())
	}
	x.again(t)
	x.do(t, syncs())
	x.again(t)
	x.do(t, rooms(0), appends("a"), appends(""), appends(strings.Repeat("d", 4001)), fuses(0), appends("a"), appends(""))
	x.do(t, syncs(), appends("a"), appends(""), appends(strings.Repeat("d", 4001)))
}

// P8.2: an Append is full where its frame has no room, to the last byte; one that is shorter may have it yet.
func TestAppendFull(t *testing.T) {
	for room := range 40 {
		x := begin(t, room)
		x.do(t, opens(), appends("abc"))
		if there := x.j.Len() == 1; there != (room >= 11) {
			t.Fatalf("%s: there: %v, of room %d", x.row(), there, room)
		}
		x.do(t, appends("defgh"), appends("i"), appends("j"), syncs(), appends("k"))
		x.again(t)
	}
}

// P8.2, P8.3: a Sync makes all firm, once; a disk that goes out by it has it not done.
func TestSync(t *testing.T) {
	x := begin(t, 100)
	x.do(t, opens(), syncs(), appends("a"), appends("bc"))
	if x.j.Firm() != 0 {
		t.Fatalf("%s: %d firm", x.row(), x.j.Firm())
	}
	x.do(t, syncs())
	if x.j.Firm() != 2 {
		t.Fatalf("%s: %d firm", x.row(), x.j.Firm())
	}
	x.do(t, syncs(), appends("d"), fuses(0), syncs(), syncs())
	if x.j.Firm() != 2 || x.j.Len() != 3 || x.d.Steps() != 7 {
		t.Fatalf("%s: %d firm of %d, %d steps", x.row(), x.j.Firm(), x.j.Len(), x.d.Steps())
	}
	x.do(t, crashes(0), opens())
	x.again(t)
}

// P8.2: a Rewrite of any records, none too, is two steps, behind which these are there, firm; a wrong one among them is told ahead of what the disk can't, the first one's error.
func TestRewrite(t *testing.T) {
	long, longest := strings.Repeat("l", 4001), strings.Repeat("m", 4000)
	for _, ahead := range [][]act{nil, {appends("a")}, {appends("a"), syncs()}, {appends("a"), syncs(), appends("bc")}} {
		for _, l := range [][]string{nil, {"x"}, {"x", "x"}, {"y z", "x", longest}, {"bc", "a"}, {framed("x")}} {
			x := begin(t, 5000)
			x.do(t, opens())
			x.do(t, ahead...)
			x.do(t, rewrites("a", "", long), rewrites(long, ""), rewrites("a", "b", long, "c"), rewrites(""))
			steps := x.d.Steps()
			x.do(t, rewrites(l...))
			if x.d.Steps() != steps+2 || x.j.Firm() != len(l) || x.j.Len() != len(l) {
				t.Fatalf("%s: %d steps, %d firm of %d", x.row(), x.d.Steps()-steps, x.j.Firm(), x.j.Len())
			}
			x.again(t)
			x.do(t, appends("more"), rewrites(l...), appends("more"), syncs(), crashes(0), opens())
			x.again(t)
			x.do(t, rooms(0), rewrites("a", "", long), rewrites("a", long, ""), rewrites("a"), fuses(0), rewrites(""), syncs())
			x.do(t, rewrites("a", "", long), rewrites("a", long, ""), rewrites("a"), rewrites())
		}
	}
}

// P8.2: a Rewrite needs room beside the log, to the last byte, even if its records would have it alone; one that is refused leaves nothing behind.
func TestRewriteFull(t *testing.T) {
	for room := 20; room < 60; room++ {
		x := begin(t, room)
		x.do(t, opens(), appends("a"), syncs(), appends("bc"))
		steps := x.d.Steps()
		x.do(t, rewrites("x", "y z"))
		if full := room < 39; full != (x.d.Steps() == steps) || full != (texts(x.j)[0] == "a") {
			t.Fatalf("%s: %d steps, %q", x.row(), x.d.Steps()-steps, texts(x.j))
		}
		x.do(t, rewrites(), rewrites("x", "y z"), rewrites("q"))
		x.again(t)
	}
}

// P8.2, P8.4: a fuse that burns in a Rewrite leaves the records that were, one that doesn't the new ones.
func TestRewriteFuse(t *testing.T) {
	for fuse := range 4 {
		for kept := range 13 {
			x := begin(t, 200)
			x.do(t, opens(), appends("a"), syncs(), appends("bcd"), fuses(fuse), rewrites("x", "y"))
			was, now := []string{"a", "bcd"}, []string{"x", "y"}
			if l := texts(x.j); !slices.Equal(l, was) && fuse < 2 || !slices.Equal(l, now) && fuse > 1 {
				t.Fatalf("%s: %q", x.row(), l)
			}
			x.do(t, crashes(kept), opens())
			if l := texts(x.j); !slices.Equal(l, was[:1+kept/11]) && fuse < 2 || !slices.Equal(l, now) && fuse > 1 {
				t.Fatalf("%s: %q", x.row(), l)
			}
			x.again(t)
			x.do(t, rewrites("k"), appends("l"), syncs(), crashes(0), opens())
			x.again(t)
		}
	}
}

// P8.3: a record is firm when the last byte of its frame is, and those ahead are.
func TestFirm(t *testing.T) {
	l := []string{"a", "bcd", "ef", strings.Repeat("g", 300)}
	log := joined(l)
	for firm := range len(log) + 1 {
		x := begin(t, 400)
		x.do(t, lays(log[:firm]), hardens(), lays(log[firm:]), opens())
		want := 0
		for n := range l {
			if firm >= len(joined(l[:n+1])) {
				want = n + 1
			}
		}
		if x.j.Firm() != want || x.j.Len() != len(l) {
			t.Fatalf("%d bytes firm: %d records firm, not %d", firm, x.j.Firm(), want)
		}
	}
}

// P8.3: what a crash of the disk under a journal made firm is firm there, too.
func TestFirmBehindCrash(t *testing.T) {
	for kept := range 25 {
		d, _ := disk.New(100)
		j, _ := journal.Open(d)
		if j.Append([]byte("a")) != api.OK || j.Sync() != api.OK || j.Append([]byte("bcd")) != api.OK || j.Append([]byte("e")) != api.OK || d.Crash(kept) != api.OK {
			t.Fatal(kept)
		}
		want := 1
		for _, end := range []int{11, 20} {
			if kept >= end {
				want++
			}
		}
		if j.Firm() != want {
			t.Errorf("%d bytes kept: %d firm, not %d", kept, j.Firm(), want)
		}
	}
}

// P8.1 to P8.3: the greatest disk, full of the least records and of the greatest ones.
func TestGreat(t *testing.T) {
	for size, most := range map[int]int{1: 111_111, 4000: 249} {
		d, _ := disk.New(1_000_000)
		j, _ := journal.Open(d)
		n := 0
		for {
			b := make([]byte, size)
			b[0] = byte(n)
			if e := j.Append(b); e != api.OK {
				if e != api.ErrFull {
					t.Fatal(e)
				}
				break
			}
			n++
			if n == most/2 && j.Sync() != api.OK {
				t.Fatal("sync")
			}
		}
		if n != most || j.Len() != most || j.Firm() != most/2 {
			t.Fatalf("size %d: %d records, %d, %d firm", size, n, j.Len(), j.Firm())
		}
		twin := d.Copy()
		twin.Crash(9)
		half, e := journal.Open(twin)
		if want := most/2 + 9/(8+size); e != api.OK || half.Len() != want || half.Firm() != want {
			t.Fatalf("size %d: %v, %d records, not %d", size, e, half.Len(), want)
		}
		again, e := journal.Open(d)
		if e != api.OK || again.Len() != most || again.Firm() != most/2 {
			t.Fatalf("size %d: %v, %d records", size, e, again.Len())
		}
		for i, b := range again.All() {
			if len(b) != size || b[0] != byte(i) {
				t.Fatalf("size %d: record %d is %v", size, i, b)
			}
		}
	}
}

// P8.1 to P8.4: all rows of five acts, against the document's words.
func TestAllShortRows(t *testing.T) {
	acts := []act{appends("a"), appends("bc"), appends(""), syncs(), rewrites(), rewrites("x", "yz"), crashes(0), crashes(12), fuses(0), fuses(1), rooms(28), opens()}
	rows := 1
	for range 5 {
		rows *= len(acts)
	}
	for row := range rows {
		x := begin(t, 45)
		x.do(t, opens())
		for left, n := row, 0; n < 5; left, n = left/len(acts), n+1 {
			x.do(t, acts[left%len(acts)])
		}
		if row%5 == 0 {
			x.do(t, crashes(row%14), opens())
			if x.p.opened {
				x.again(t)
			}
		}
	}
}

// chosen tells an act by chance, of short and long records and of wrong ones.
func chosen(r *rand.Rand) act {
	text := func() string {
		return strings.Repeat(string(rune('a'+r.Intn(26))), r.Intn(40))
	}
	switch r.Intn(16) {
	case 0, 1, 2, 3, 4, 5:
		return appends(text())
	case 6, 7, 8:
		return syncs()
	case 9, 10:
		var l []string
		for range r.Intn(5) {
			l = append(l, text()+"r")
		}
		return rewrites(l...)
	case 11:
		return fuses(r.Intn(12))
	case 12:
		return crashes(r.Intn(120))
	case 13:
		return rooms(r.Intn(500))
	case 14:
		return lays(text())
	}
	return []act{rewrites(text(), text()), crashes(math.MaxInt), hardens(), appends(strings.Repeat("w", 4001))}[r.Intn(4)]
}

// P8.1 to P8.4: long rows of acts by chance, each journal opened anew behind a crash and where bytes came under it.
func TestLongRows(t *testing.T) {
	for seed := range 300 {
		r := rand.New(rand.NewSource(int64(seed)))
		x := begin(t, 400)
		x.do(t, opens())
		for range 200 {
			a := chosen(r)
			x.do(t, a)
			if strings.HasPrefix(a.name, "Crash") || strings.HasPrefix(a.name, "disk.") || r.Intn(20) == 0 {
				x.do(t, opens())
				if x.p.opened {
					x.again(t)
				}
			}
			if x.p.out && r.Intn(2) == 0 {
				x.do(t, crashes(r.Intn(60)), opens())
			}
		}
	}
}

// story is what a journal's own answers say of what a crash may leave: firm ones first, then loose ones, then perhaps one under way.
type story struct {
	firm, loose, under []string
}

// lives does an act by chance at a journal, and takes its answer into the story.
func (s *story) lives(r *rand.Rand, j *journal.Journal, b string) {
	switch r.Intn(5) {
	case 0, 1, 2:
		if j.Append([]byte(b)) == api.OK {
			s.loose = append(s.loose, b)
		} else {
			s.under = []string{b}
		}
	case 3:
		if j.Sync() == api.OK {
			s.firm, s.loose = append(s.firm, s.loose...), nil
		}
	case 4:
		if j.Rewrite([][]byte{[]byte(b), []byte("s")}) == api.OK {
			s.firm, s.loose = []string{b, "s"}, nil
		}
	}
}

// P8.4: wherever a fuse burns, and whatever a crash keeps, what is opened behind it has the firm records, and some first ones of the others; and it goes on from there.
func TestFirmOutlivesCrashes(t *testing.T) {
	for seed := range 40 {
		for fuse := range 14 {
			for kept := range 30 {
				r := rand.New(rand.NewSource(int64(seed)))
				d, _ := disk.New(600)
				j, e := journal.Open(d)
				var s story
				for round := range 3 {
					d.Fuse(fuse + round)
					for n := 0; n < 9 && d.Up(); n++ {
						s.lives(r, j, fmt.Sprint(round, n, strings.Repeat("!", r.Intn(6))))
					}
					d.Crash(kept)
					if j, e = journal.Open(d); e != api.OK {
						t.Fatalf("seed %d, fuse %d, kept %d: %v", seed, fuse, kept, e)
					}
					got, most := texts(j), slices.Concat(s.firm, s.loose, s.under)
					if len(got) < len(s.firm) || len(got) > len(most) || !slices.Equal(got, most[:len(got)]) || j.Firm() != len(got) {
						t.Fatalf("seed %d, fuse %d, kept %d: %q, not %q and some of %q", seed, fuse, kept, got, s.firm, most)
					}
					s = story{firm: got}
				}
			}
		}
	}
}

// P8.3 and rule 5: nothing is told and nothing done of what is nil, of what nobody opened, and of a copy of the fields.
func TestNone(t *testing.T) {
	x := begin(t, 100)
	x.do(t, opens(), appends("a"), syncs(), appends("b"))
	fields := *x.j
	refused, _ := journal.Open(nil)
	for what, j := range map[string]*journal.Journal{"nil": nil, "nobody's": {}, "new": new(journal.Journal), "a copy of the fields": &fields, "refused": refused} {
		for name, e := range map[string]api.Errno{
			"Append": j.Append([]byte("x")), "Append nothing": j.Append(nil), "Append too much": j.Append(make([]byte, 4001)), "Sync": j.Sync(),
			"Rewrite": j.Rewrite([][]byte{[]byte("x")}), "Rewrite nothing": j.Rewrite(nil), "Rewrite none": j.Rewrite([][]byte{nil}),
		} {
			if e != api.ErrNil {
				t.Errorf("%s of %s: %v", name, what, e)
			}
		}
		if l := j.All(); len(l) != 0 || j.Len() != 0 || j.Firm() != 0 {
			t.Errorf("%s: %q, %d records, %d firm", what, l, j.Len(), j.Firm())
		}
	}
	x.same(t)
}

// A journal whose disk is somebody's fields by now answers as the disk does.
func TestDiskGone(t *testing.T) {
	d, _ := disk.New(100)
	j, _ := journal.Open(d)
	j.Append([]byte("a"))
	*d = disk.Disk{}
	if j.Append([]byte("b")) != api.ErrNil || j.Append(nil) != api.ErrArg || j.Sync() != api.ErrNil || j.Rewrite(nil) != api.ErrNil || j.Len() != 1 || j.Firm() != 0 {
		t.Errorf("%d records, %d firm", j.Len(), j.Firm())
	}
}

// spoil turns all bytes of lists, their spare room too.
func spoil(l ...[]byte) {
	for _, b := range l {
		b = b[:cap(b)]
		for i := range b {
			b[i] = '!'
		}
	}
}

// Rule 4: what is handed in is neither kept nor changed, its spare room neither; what is told is new memory.
func TestMemory(t *testing.T) {
	d, _ := disk.New(1000)
	j, _ := journal.Open(d)
	given := []byte("abcdefgh")
	list := append(make([][]byte, 0, 9), given[0:2], given[4:5])
	holds := func(want ...string) {
		t.Helper()
		first, second := j.All(), j.All()
		spoil(first...)
		first = append(first, nil)
		for i := range first[:cap(first)] {
			first[:cap(first)][i] = nil
		}
		var l []string
		for _, b := range second {
			l = append(l, string(b))
		}
		if !slices.Equal(l, want) || !slices.Equal(texts(j), want) {
			t.Fatalf("records %q, %q, not %q", l, texts(j), want)
		}
		again, e := journal.Open(d)
		if e != api.OK || !slices.Equal(texts(again), want) {
			t.Fatalf("opened again: %v, %q, not %q", e, texts(again), want)
		}
	}
	if j.Append(given[2:4]) != api.OK || string(given) != "abcdefgh" {
		t.Fatalf("given %q", given)
	}
	copy(given, "xxxx")
	holds("cd")
	copy(given, "abcd")
	if j.Rewrite(list) != api.OK || string(given) != "abcdefgh" || len(list) != 2 || list[:3][2] != nil {
		t.Fatalf("given %q, %q", given, list[:3])
	}
	spoil(given)
	list[0] = nil
	holds("ab", "e")
	told := j.All()
	j.Append([]byte("i"))
	j.Rewrite([][]byte{[]byte("j")})
	if len(told) != 2 || string(told[0]) != "ab" || string(told[1]) != "e" {
		t.Fatalf("the journal changed what it told: %q", told)
	}
	d.Append([]byte("torn"))
	if j, e := journal.Open(d); e != api.OK || !slices.Equal(texts(j), []string{"j"}) {
		t.Fatalf("%v, %q", e, texts(j))
	}
	holds("j")
}

// Rule 4: the records that one answer tells share no memory: what is laid behind one is not in the next.
func TestRecordsApart(t *testing.T) {
	x := begin(t, 1000)
	x.do(t, lays(joined([]string{"ab", "cd", "ef"})+"torn"), opens(), appends("gh"))
	l := x.j.All()
	for i := range l {
		_ = append(l[i], "!!!!!!!!!!!!!!!!"...)
	}
	x.same(t)
	if fmt.Sprintf("%s", l) != "[ab cd ef gh]" {
		t.Fatalf("records %s", l)
	}
}

// Rule 3: what is refused has changed nothing: a journal behind it goes on as one of which it was never asked.
func TestRefusedChangesNothing(t *testing.T) {
	long := strings.Repeat("l", 4001)
	refused := []act{appends(""), appends(long), appends(strings.Repeat("full", 50)), rewrites(""), rewrites("a", long), rewrites(strings.Repeat("full", 50))}
	for seed := range 100 {
		r := rand.New(rand.NewSource(int64(seed)))
		x, y := begin(t, 150), begin(t, 150)
		x.do(t, opens())
		y.do(t, opens())
		for range 40 {
			a := []act{appends("a"), appends("bc"), syncs(), rewrites("d", "e"), fuses(r.Intn(9)), opens()}[r.Intn(6)]
			for range r.Intn(3) {
				y.do(t, refused[r.Intn(len(refused))])
			}
			x.do(t, a)
			y.do(t, a)
			if fmt.Sprint(x.p) != fmt.Sprint(y.p) {
				t.Fatalf("%s: %+v, not %+v", y.row(), y.p, x.p)
			}
			if x.p.out {
				kept := r.Intn(30)
				x.do(t, crashes(kept), opens())
				y.do(t, crashes(kept), opens())
			}
		}
	}
}

// Two journals over one disk, one behind the other: the later one has what the earlier one left, and goes on from there.
func TestOneBehindTheOther(t *testing.T) {
	x := begin(t, 1000)
	x.do(t, opens(), appends("a"), opens(), appends("b"), syncs(), opens(), rewrites("c"), opens(), appends("d"), opens())
	if l := texts(x.j); !slices.Equal(l, []string{"c", "d"}) || x.j.Firm() != 1 {
		t.Fatalf("%s: %q, %d firm", x.row(), l, x.j.Firm())
	}
}
