package disk_test

import (
	"bytes"
	"fmt"
	"math"
	"math/rand"
	"strings"
	"testing"

	"chartulary/api"
	"chartulary/disk"
)

// plain is a disk as the document's words say: texts that are firm, loose and next, and a fuse that is there or not.
type plain struct {
	firm, loose, next string
	room, fuse, steps int
	fused, out        bool
}

// burns counts a step, and tells whether the disk is out from it on.
func (p *plain) burns() bool {
	p.steps++
	if p.fused && p.fuse == 0 {
		p.out = true
	}
	p.fuse--
	return p.out
}

// lays tells what an Append or a Next answers, and whether the bytes stand there.
func (p *plain) lays(b string) (api.Errno, bool) {
	switch all := p.firm + p.loose + p.next + b; {
	case p.out:
		return api.ErrBroken, false
	case len(all) > p.room:
		return api.ErrFull, false
	case p.burns():
		return api.ErrBroken, true
	}
	return api.OK, true
}

// does tells what a Sync or a Switch answers.
func (p *plain) does() api.Errno {
	if p.out || p.burns() {
		return api.ErrBroken
	}
	return api.OK
}

// rises is what Crash and Wipe have in common.
func (p *plain) rises() {
	p.next, p.loose = "", ""
	p.fused, p.out = false, false
}

// pair is a disk, and what it should be; done tells what was done to both.
type pair struct {
	d    *disk.Disk
	p    plain
	done []string
}

// act is one call, done to both; it tells both answers.
type act struct {
	name string
	do   func(x *pair) (got, want api.Errno)
}

func appends(b string) act {
	return act{fmt.Sprintf("Append(%q)", b), func(x *pair) (api.Errno, api.Errno) {
		want, there := x.p.lays(b)
		if there {
			x.p.loose += b
		}
		return x.d.Append([]byte(b)), want
	}}
}

func nexts(b string) act {
	return act{fmt.Sprintf("Next(%q)", b), func(x *pair) (api.Errno, api.Errno) {
		want, there := x.p.lays(b)
		if there {
			x.p.next += b
		}
		return x.d.Next([]byte(b)), want
	}}
}

func syncs() act {
	return act{"Sync", func(x *pair) (api.Errno, api.Errno) {
		want := x.p.does()
		if want == api.OK {
			x.p.firm, x.p.loose = x.p.firm+x.p.loose, ""
		}
		return x.d.Sync(), want
	}}
}

func switches() act {
	return act{"Switch", func(x *pair) (api.Errno, api.Errno) {
		want := x.p.does()
		if want == api.OK {
			x.p.firm, x.p.loose, x.p.next = x.p.next, "", ""
		}
		return x.d.Switch(), want
	}}
}

func crashes(kept int) act {
	return act{fmt.Sprintf("Crash(%d)", kept), func(x *pair) (api.Errno, api.Errno) {
		if kept < 0 {
			return x.d.Crash(kept), api.ErrArg
		}
		x.p.firm += x.p.loose[:min(kept, len(x.p.loose))]
		x.p.rises()
		return x.d.Crash(kept), api.OK
	}}
}

func wipes() act {
	return act{"Wipe", func(x *pair) (api.Errno, api.Errno) {
		x.p.firm = ""
		x.p.rises()
		return x.d.Wipe(), api.OK
	}}
}

func fuses(n int) act {
	return act{fmt.Sprintf("Fuse(%d)", n), func(x *pair) (api.Errno, api.Errno) {
		if n < 0 {
			return x.d.Fuse(n), api.ErrArg
		}
		x.p.fused, x.p.fuse = true, n
		return x.d.Fuse(n), api.OK
	}}
}

func rooms(n int) act {
	return act{fmt.Sprintf("Room(%d)", n), func(x *pair) (api.Errno, api.Errno) {
		if n < 0 || n > 1_000_000 {
			return x.d.Room(n), api.ErrArg
		}
		x.p.room = n
		return x.d.Room(n), api.OK
	}}
}

// copies goes on with a copy, and spoils what was copied.
func copies() act {
	return act{"Copy", func(x *pair) (api.Errno, api.Errno) {
		was := x.d
		x.d = was.Copy()
		was.Room(1_000_000)
		was.Append([]byte("spoilt"))
		was.Next([]byte("spoilt"))
		was.Wipe()
		was.Append([]byte("spoilt"))
		was.Fuse(0)
		was.Sync()
		return api.OK, api.OK
	}}
}

// begin tells an empty disk of a room, and what it should be.
func begin(t *testing.T, room int) *pair {
	t.Helper()
	d, e := disk.New(room)
	if d == nil || e != api.OK {
		t.Fatalf("new of room %d: %v", room, e)
	}
	return &pair{d: d, p: plain{room: room}}
}

// do does acts one by one, each of which must be answered as the words say.
func (x *pair) do(t *testing.T, acts ...act) {
	t.Helper()
	for _, a := range acts {
		x.done = append(x.done, a.name)
		if got, want := a.do(x); got != want {
			t.Fatalf("%s: the last one is answered %v, not %v", strings.Join(x.done, ", "), got, want)
		}
	}
}

// same asks that the disk is what it should be, by all that tells of it.
func (x *pair) same(t *testing.T) {
	t.Helper()
	want, wantErr := x.p.firm+x.p.loose, api.OK
	length := len(want)
	if x.p.out {
		want, wantErr = "", api.ErrBroken
	}
	if b, e := x.d.Read(); string(b) != want || e != wantErr {
		t.Fatalf("%s: read %q, %v, not %q, %v", strings.Join(x.done, ", "), b, e, want, wantErr)
	}
	if x.d.Len() != length || x.d.Firm() != len(x.p.firm) || x.d.Steps() != x.p.steps || x.d.Up() != !x.p.out {
		t.Fatalf("%s: %d bytes, %d firm, %d steps, up %v, not %d, %d, %d, %v", strings.Join(x.done, ", "),
			x.d.Len(), x.d.Firm(), x.d.Steps(), x.d.Up(), length, len(x.p.firm), x.p.steps, !x.p.out)
	}
}

// left asks what is left to be told: the room that is left, the next area, and the fuse.
func (x *pair) left(t *testing.T) {
	t.Helper()
	room := &pair{d: x.d.Copy(), p: x.p, done: append([]string(nil), x.done...)}
	room.do(t, fuses(9), crashes(9), appends(strings.Repeat("x", max(0, x.p.room-len(room.p.firm)))), appends("x"))
	room.same(t)
	fuse := &pair{d: x.d.Copy(), p: x.p, done: append([]string(nil), x.done...)}
	fuse.do(t, syncs(), syncs(), syncs(), switches())
	fuse.same(t)
	next := &pair{d: x.d.Copy(), p: x.p, done: append([]string(nil), x.done...)}
	next.do(t, fuses(3), switches())
	next.same(t)
}

// The document's examples.
func TestExamples(t *testing.T) {
	x := begin(t, 10)
	d := x.d
	answers := func(what string, got, want api.Errno) {
		t.Helper()
		if got != want {
			t.Errorf("%s: %v, not %v", what, got, want)
		}
	}
	reads := func(want []byte, wantErr api.Errno) {
		t.Helper()
		if b, e := d.Read(); !bytes.Equal(b, want) || e != wantErr {
			t.Errorf("read: %v, %v, not %v, %v", b, e, want, wantErr)
		}
	}
	answers("append", d.Append([]byte{1, 2}), api.OK)
	answers("sync", d.Sync(), api.OK)
	answers("append", d.Append([]byte{3, 4, 5}), api.OK)
	if d.Len() != 5 {
		t.Errorf("%d bytes", d.Len())
	}
	answers("crash", d.Crash(2), api.OK)
	reads([]byte{1, 2, 3, 4}, api.OK)
	answers("next", d.Next([]byte{9}), api.OK)
	answers("append", d.Append([]byte{7, 7, 7, 7, 7, 7}), api.ErrFull)
	answers("switch", d.Switch(), api.OK)
	reads([]byte{9}, api.OK)
	answers("fuse", d.Fuse(1), api.OK)
	answers("append", d.Append([]byte{4}), api.OK)
	answers("sync", d.Sync(), api.ErrBroken)
	if d.Up() {
		t.Error("it is up")
	}
	reads(nil, api.ErrBroken)
	answers("crash", d.Crash(0), api.OK)
	reads([]byte{9}, api.OK)
	if d, e := disk.New(-1); d != nil || e != api.ErrArg {
		t.Errorf("new of room -1: %v, %v", d, e)
	}
	answers("fuse -1", d.Fuse(-1), api.ErrArg)
	answers("crash -1", d.Crash(-1), api.ErrArg)
}

// beyond tells numbers that are too great for a room.
func beyond() []int {
	return []int{1_000_001, 1_000_002, 2_000_000, 1 << 20, math.MaxInt32, 1 << 32, 1<<32 + 5, math.MaxInt - 1, math.MaxInt}
}

// below tells numbers that are below 0.
func below() []int {
	return []int{-1, -2, -10, -1_000_000, math.MinInt32, -1 << 32, -1<<32 + 5, math.MinInt + 1, math.MinInt}
}

// P7.1, P7.4: rooms are from 0 to 1,000,000, a new disk's and those that it gets later.
func TestRooms(t *testing.T) {
	for _, room := range []int{0, 1, 2, 10, 999_999, 1_000_000} {
		x := begin(t, room)
		x.same(t)
		x.left(t)
		y := begin(t, 5)
		y.do(t, rooms(room))
		y.same(t)
		y.left(t)
	}
	x := begin(t, 5)
	x.do(t, appends("ab"), nexts("c"), fuses(2))
	for _, room := range append(beyond(), below()...) {
		if d, e := disk.New(room); d != nil || e != api.ErrArg {
			t.Errorf("new of room %d: %v, %v", room, d, e)
		}
		x.do(t, rooms(room))
		x.same(t)
	}
	x.left(t)
}

// P7.4: no fuse and no crash keeps numbers below 0, and nothing is changed by one; the greatest ones there are are as good as any.
func TestNumbers(t *testing.T) {
	x := begin(t, 9)
	x.do(t, appends("ab"), syncs(), appends("cd"), nexts("e"))
	for _, n := range below() {
		x.do(t, fuses(n), crashes(n))
		x.same(t)
		x.left(t)
	}
	x.do(t, fuses(1), fuses(-1), crashes(-1))
	x.left(t)
	x.do(t, fuses(0), syncs(), fuses(-1), crashes(-1))
	x.same(t)
	for _, n := range []int{5, math.MaxInt32, 1 << 32, math.MaxInt - 1, math.MaxInt} {
		x.do(t, crashes(n))
		x.same(t)
		x.do(t, fuses(n), syncs(), appends("f"), syncs(), appends("g"), nexts("h"))
		x.same(t)
		x.left(t)
		x.do(t, crashes(0), wipes(), appends("ab"), syncs(), appends("cd"))
	}
}

// P7.1: steps are counted, whatever comes of them; what is refused ahead of its step is none.
func TestSteps(t *testing.T) {
	x := begin(t, 3)
	for i, a := range []struct {
		act   act
		steps int
	}{
		{appends("ab"), 1}, {appends("cd"), 1}, {nexts("cd"), 1}, {appends(""), 2}, {nexts(""), 3}, {syncs(), 4}, {syncs(), 5},
		{nexts("c"), 6}, {nexts("d"), 6}, {switches(), 7}, {fuses(1), 7}, {rooms(4), 7}, {crashes(0), 7}, {fuses(1), 7}, {syncs(), 8},
		{appends("z"), 9}, {appends("z"), 9}, {nexts("z"), 9}, {syncs(), 9}, {switches(), 9}, {fuses(3), 9}, {crashes(1), 9},
		{syncs(), 10}, {wipes(), 10}, {copies(), 10}, {switches(), 11}, {fuses(0), 11}, {switches(), 12}, {copies(), 12}, {wipes(), 12}, {nexts("abc"), 13},
	} {
		x.do(t, a.act)
		if x.d.Steps() != a.steps {
			t.Fatalf("%d: %s: %d steps, not %d", i, strings.Join(x.done, ", "), x.d.Steps(), a.steps)
		}
		x.same(t)
	}
}

// P7.2: log, next area and what is laid have room together, to the last byte; with less room than lies there not even nothing can be laid.
func TestFull(t *testing.T) {
	for log := range 5 {
		for next := range 5 {
			for more := range 5 {
				for room := range 14 {
					for _, lays := range []func(string) act{appends, nexts} {
						x := begin(t, 100)
						x.do(t, appends(strings.Repeat("l", log)), nexts(strings.Repeat("n", next)), rooms(room))
						x.same(t)
						x.do(t, lays(strings.Repeat("m", more)), syncs())
						x.same(t)
						if steps := x.d.Steps(); (steps == 4) != (log+next+more <= room) {
							t.Fatalf("%s: %d steps", strings.Join(x.done, ", "), steps)
						}
						x.do(t, lays("x"), switches())
						x.same(t)
					}
				}
			}
		}
	}
}

// P7.2: a great disk is full at its last byte, whichever of its areas has how much.
func TestGreat(t *testing.T) {
	half, all := strings.Repeat("h", 500_000), strings.Repeat("a", 1_000_000)
	x := begin(t, 1_000_000)
	x.do(t, appends(all))
	x.done = nil
	x.do(t, appends("x"), nexts("x"), appends(""), nexts(""), syncs(), crashes(0), appends("x"), wipes())
	x.do(t, nexts(half), appends(half))
	x.done = nil
	x.do(t, appends("x"), nexts("x"), copies(), appends("x"), nexts("x"), switches(), nexts(half))
	x.done = nil
	x.do(t, nexts("x"), crashes(0), appends(half[1:]))
	x.done = nil
	x.do(t, nexts("x"), nexts("x"))
	x.same(t)
	x.left(t)
}

// P7.2: with any fuse each of the steps behind it is the one with which the disk goes out; what was laid by it is there, loose or gone, and what would be done by it is not done.
func TestFuse(t *testing.T) {
	steps := []act{appends("a"), syncs(), nexts("b"), appends("cd"), switches(), nexts("e"), appends("f"), syncs(), switches(), appends("g")}
	for from := range steps {
		for fuse := range len(steps) + 2 {
			for kept := range 4 {
				x := begin(t, 100)
				x.do(t, steps[:from]...)
				x.do(t, fuses(fuse))
				x.do(t, steps[from:]...)
				x.same(t)
				if up := from+fuse >= len(steps); x.d.Up() != up || (x.d.Steps() == from+fuse+1) != !up {
					t.Fatalf("%s: up %v, %d steps", strings.Join(x.done, ", "), x.d.Up(), x.d.Steps())
				}
				x.left(t)
				x.do(t, crashes(kept))
				x.same(t)
				x.left(t)
				x.do(t, steps...)
				x.same(t)
			}
		}
	}
}

// P7.2: what is refused ahead of its step doesn't use a fuse; the disk is not out by a fuse of 0 till a step comes.
func TestFuseStays(t *testing.T) {
	x := begin(t, 2)
	x.do(t, appends("a"), fuses(0), appends("bc"), nexts("bc"), rooms(0), appends(""), nexts(""), crashes(-1), fuses(-1), rooms(-1))
	x.same(t)
	x.do(t, syncs())
	x.same(t)
	if x.d.Up() || x.d.Firm() != 0 {
		t.Error("out, and the log isn't firm")
	}
}

// P7.4: a fuse takes the place of any other one, at a disk that is out too, but there no step comes, and a crash or a wipe takes it away.
func TestFuseReplaced(t *testing.T) {
	for _, ends := range []act{crashes(0), crashes(1), wipes()} {
		for first := range 4 {
			for second := range 4 {
				x := begin(t, 9)
				x.do(t, fuses(first), syncs(), fuses(second), syncs(), syncs())
				x.same(t)
				x.left(t)
				x.do(t, fuses(first), ends, syncs(), syncs(), syncs(), syncs(), syncs())
				x.same(t)
				if !x.d.Up() {
					t.Fatalf("%s: it is out", strings.Join(x.done, ", "))
				}
			}
		}
	}
}

// P7.3, P7.4: a disk that is out tells how long it is, and gets rooms and fuses, but does and reads nothing, with room or without.
func TestOut(t *testing.T) {
	for _, goes := range []act{appends("d"), nexts("d"), syncs(), switches()} {
		x := begin(t, 7)
		x.do(t, appends("ab"), syncs(), appends("c"), nexts("ef"), fuses(0), goes)
		for _, a := range []act{appends("x"), appends(""), appends("longer than the room"), nexts("x"), nexts(""), nexts("longer than the room"), syncs(), switches(), rooms(3), fuses(7), rooms(9), fuses(0), copies()} {
			x.do(t, a)
			x.same(t)
			if x.d.Up() {
				t.Fatal("it is up")
			}
		}
		x.do(t, crashes(1))
		x.same(t)
		if b, e := x.d.Read(); string(b) != "abc" || e != api.OK || !x.d.Up() {
			t.Fatalf("behind the crash: %q, %v", b, e)
		}
		x.left(t)
	}
}

// P7.4, P7.5: a crash keeps what is firm, and the first loose bytes, all of which are firm by it; it may come when nothing is wrong, again and again.
func TestCrash(t *testing.T) {
	for firm := range 5 {
		for loose := range 5 {
			for kept := range 7 {
				x := begin(t, 20)
				x.do(t, appends("firm"[:firm]), syncs(), appends("LOOS"[:loose]), nexts("next"), crashes(kept))
				x.same(t)
				want := "firm"[:firm] + "LOOS"[:min(kept, loose)]
				if b, e := x.d.Read(); string(b) != want || e != api.OK || x.d.Firm() != len(want) {
					t.Fatalf("%s: %q, %v, %d firm, not %q", strings.Join(x.done, ", "), b, e, x.d.Firm(), want)
				}
				x.left(t)
				x.do(t, appends("more"), crashes(0))
				x.same(t)
				if b, _ := x.d.Read(); string(b) != want {
					t.Fatalf("%s: %q, not %q", strings.Join(x.done, ", "), b, want)
				}
			}
		}
	}
}

// P7.2: a switch with nothing in the next area leaves an empty log; what is loose goes with the rest.
func TestSwitch(t *testing.T) {
	x := begin(t, 9)
	x.do(t, appends("ab"), syncs(), appends("c"), nexts("d"), nexts("ef"), switches())
	x.same(t)
	x.left(t)
	x.do(t, crashes(0))
	if b, _ := x.d.Read(); string(b) != "def" {
		t.Errorf("read %q", b)
	}
	x.do(t, nexts("gh"), appends("i"), switches(), appends("j"), nexts("k"), appends("l"))
	x.same(t)
	x.do(t, switches(), switches())
	x.same(t)
	if b, e := x.d.Read(); len(b) != 0 || e != api.OK || x.d.Len() != 0 {
		t.Errorf("read %q, %v", b, e)
	}
	x.left(t)
}

// P7.4: a wipe leaves neither what is firm, nor what is loose, nor the next area, but the room and the count of steps.
func TestWipe(t *testing.T) {
	for _, ahead := range [][]act{nil, {syncs()}, {fuses(0)}, {fuses(0), syncs()}, {fuses(0), appends("x")}, {rooms(2)}, {switches()}, {wipes()}, {crashes(1)}} {
		x := begin(t, 9)
		x.do(t, appends("ab"), syncs(), appends("c"), nexts("d"))
		x.do(t, ahead...)
		x.do(t, wipes())
		x.same(t)
		x.left(t)
		if x.d.Steps() < 4 || x.d.Len() != 0 || x.d.Firm() != 0 || !x.d.Up() {
			t.Fatalf("%s: %d steps, %d bytes", strings.Join(x.done, ", "), x.d.Steps(), x.d.Len())
		}
		x.do(t, appends("yz"), crashes(1))
		x.same(t)
	}
}

// P7.1 to P7.4: all rows of five acts, against the document's words.
func TestAllShortRows(t *testing.T) {
	acts := []act{appends("a"), appends("bc"), syncs(), nexts("d"), switches(), crashes(0), crashes(1), fuses(0), fuses(1), wipes(), rooms(2), copies()}
	rows := 1
	for range 5 {
		rows *= len(acts)
	}
	for row := range rows {
		x := begin(t, 4)
		for left, n := row, 0; n < 5; left, n = left/len(acts), n+1 {
			x.do(t, acts[left%len(acts)])
			x.same(t)
		}
		if row%7 == 0 {
			x.left(t)
		}
	}
}

// chosen tells an act by chance, of short and long bytes and of all numbers.
func chosen(r *rand.Rand) act {
	b := strings.Repeat(string(rune('a'+r.Intn(26))), r.Intn(40))
	switch r.Intn(16) {
	case 0, 1, 2, 3, 4:
		return appends(b)
	case 5, 6, 7:
		return nexts(b)
	case 8, 9, 10:
		return syncs()
	case 11:
		return switches()
	case 12:
		return fuses(r.Intn(12) - 1)
	case 13:
		return crashes(r.Intn(60) - 1)
	case 14:
		return rooms(r.Intn(500))
	}
	return []act{copies(), wipes(), crashes(math.MaxInt)}[r.Intn(3)]
}

// P7.1 to P7.4: long rows of acts, against the document's words.
func TestLongRows(t *testing.T) {
	for seed := range 200 {
		r := rand.New(rand.NewSource(int64(seed)))
		x := begin(t, 300)
		for range 300 {
			x.do(t, chosen(r))
			x.same(t)
		}
		x.left(t)
	}
}

// P7.5: what was firm stays at the log's beginning, whatever is done and whatever crashes, till a Switch that was done, or a Wipe; behind a crash there is nothing that was not in the log ahead of it.
func TestFirmStays(t *testing.T) {
	for seed := range 300 {
		r := rand.New(rand.NewSource(int64(seed)))
		x := begin(t, 400)
		firm, log := "", ""
		for range 200 {
			a := chosen(r)
			x.do(t, a)
			if a.name == "Wipe" || a.name == "Switch" && x.d.Up() {
				firm, log = "", ""
			}
			look := x.d.Copy()
			look.Crash(math.MaxInt)
			b, e := look.Read()
			if e != api.OK || !strings.HasPrefix(string(b), firm) {
				t.Fatalf("%s: %q, %v: firm was %q", strings.Join(x.done, ", "), b, e, firm)
			}
			if strings.HasPrefix(a.name, "Crash(") && a.name != "Crash(-1)" && (!strings.HasPrefix(log, string(b)) || x.d.Firm() != len(b)) {
				t.Fatalf("%s: %q, %d firm: the log was %q", strings.Join(x.done, ", "), b, x.d.Firm(), log)
			}
			firm, log = string(b[:x.d.Firm()]), string(b)
		}
	}
}

// P7.1: a copy has log, next area, room, fuse and steps, and goes on by itself; so does what was copied.
func TestCopy(t *testing.T) {
	for _, ahead := range [][]act{nil, {fuses(2)}, {fuses(0), nexts("z")}, {crashes(0)}, {switches()}, {rooms(1)}} {
		for _, then := range [][]act{{appends("x"), nexts("y"), syncs(), switches()}, {nexts("12345678")}, {crashes(1), appends("q")}, {wipes()}, {fuses(0), syncs()}, {rooms(1000)}} {
			x := begin(t, 9)
			x.do(t, appends("ab"), syncs(), appends("cd"), nexts("e"))
			x.do(t, ahead...)
			other := &pair{d: x.d.Copy(), p: x.p, done: []string{"a copy"}}
			x.do(t, then...)
			x.same(t)
			other.same(t)
			other.left(t)
			other.do(t, appends("k"), nexts("l"), crashes(9), appends("m"))
			x.same(t)
			x.left(t)
			other.same(t)
		}
	}
}

// P7.1 and rule 5: nothing is told and nothing done of what is nil, of what nobody made, and of a copy of the fields.
func TestNone(t *testing.T) {
	made := begin(t, 9)
	made.do(t, appends("ab"), syncs(), nexts("c"))
	fields := *made.d
	refused, _ := disk.New(-1)
	for what, d := range map[string]*disk.Disk{"nil": nil, "nobody's": {}, "new": new(disk.Disk), "a copy of the fields": &fields, "refused": refused, "a copy of none": new(disk.Disk).Copy()} {
		for name, e := range map[string]api.Errno{
			"Append": d.Append([]byte("x")), "Append nothing": d.Append(nil), "Sync": d.Sync(), "Next": d.Next([]byte("x")), "Switch": d.Switch(),
			"Room": d.Room(5), "Room(-1)": d.Room(-1), "Fuse": d.Fuse(0), "Fuse(-1)": d.Fuse(-1), "Crash": d.Crash(0), "Crash(-1)": d.Crash(-1), "Wipe": d.Wipe(),
		} {
			if e != api.ErrNil {
				t.Errorf("%s of %s: %v", name, what, e)
			}
		}
		if b, e := d.Read(); len(b) != 0 || e != api.ErrNil {
			t.Errorf("read of %s: %q, %v", what, b, e)
		}
		if d.Len() != 0 || d.Firm() != 0 || d.Steps() != 0 || d.Up() || d.Copy() != nil {
			t.Errorf("%s: %d bytes, %d firm, %d steps, up %v", what, d.Len(), d.Firm(), d.Steps(), d.Up())
		}
	}
	made.same(t)
	made.left(t)
}

// Rule 4: what is handed in is neither kept nor changed, its spare room neither; what is told is new memory.
func TestMemory(t *testing.T) {
	x := begin(t, 100)
	given := []byte("abcdefgh")
	for _, lay := range []func([]byte) api.Errno{x.d.Append, x.d.Next} {
		if e := lay(given[2:4]); e != api.OK {
			t.Fatal(e)
		}
		if e := lay(given[4:5]); e != api.OK {
			t.Fatal(e)
		}
	}
	if string(given) != "abcdefgh" {
		t.Fatalf("what was given is %q", given)
	}
	copy(given, "xxxxxxxx")
	reads := func(d *disk.Disk, want string) {
		t.Helper()
		first, _ := d.Read()
		second, _ := d.Read()
		if string(first) != want {
			t.Fatalf("read %q, not %q", first, want)
		}
		first = first[:cap(first)]
		for i := range first {
			first[i] = '!'
		}
		if string(second) != want {
			t.Fatalf("two reads share memory: %q", second)
		}
		if again, _ := d.Read(); string(again) != want {
			t.Fatalf("what was told is the disk's own: %q", again)
		}
	}
	reads(x.d, "cde")
	other := x.d.Copy()
	told, _ := x.d.Read()
	x.d.Append([]byte("1"))
	other.Append([]byte("2"))
	x.d.Next([]byte("3"))
	other.Next([]byte("4"))
	reads(x.d, "cde1")
	reads(other, "cde2")
	x.d.Switch()
	other.Switch()
	reads(x.d, "cde3")
	reads(other, "cde4")
	x.d.Append([]byte("56"))
	before, _ := x.d.Read()
	x.d.Crash(1)
	x.d.Append([]byte("78"))
	reads(x.d, "cde3578")
	if string(told) != "cde" || string(before) != "cde356" {
		t.Fatalf("the disk changed what it told: %q, %q", told, before)
	}
}

// Rule 3: what is refused has changed nothing: a disk behind it goes on as one of which it was never asked.
func TestRefusedChangesNothing(t *testing.T) {
	refused := []act{appends("too long by far"), nexts("too long by far"), rooms(-1), rooms(1_000_001), fuses(-1), crashes(-1)}
	for seed := range 100 {
		r := rand.New(rand.NewSource(int64(seed)))
		x, y := begin(t, 14), begin(t, 14)
		for range 60 {
			a := []act{appends("a"), nexts("b"), syncs(), switches(), crashes(r.Intn(3)), fuses(r.Intn(9))}[r.Intn(6)]
			for range r.Intn(3) {
				y.do(t, refused[r.Intn(len(refused))])
			}
			x.do(t, a)
			y.do(t, a)
			if x.p != y.p {
				t.Fatalf("%s: %+v, not %+v", strings.Join(y.done, ", "), y.p, x.p)
			}
			y.same(t)
		}
		y.left(t)
	}
}
