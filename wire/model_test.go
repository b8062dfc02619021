package wire_test

import (
	"bytes"
	"encoding/binary"
	"fmt"
	"hash/crc32"
	"math"
	"math/rand"
	"slices"
	"strings"
	"testing"

	"chartulary/api"
	"chartulary/wire"
)

// has tells what a kind has, as the document's table says.
func has(kind int) string {
	return [api.Notes]string{"", "cw", "cw", "chw", "w", "csdhx", "csdhy", "cd", "cdyx", "csb", "csboyx", "csbx", "csboy", "sx", "cs", "csyx", "csdx", "csd", "si", "si"}[kind]
}

// in tells whether n is from low to high.
func in(n, low, high int) bool { return low <= n && n <= high }

// plainBallot tells whether a ballot's numbers may be.
func plainBallot(b api.Ballot) bool {
	return b == api.Ballot{} || in(b.N, 1, 1<<31-1) && in(b.Node, 1, 64)
}

// plainMay tells whether a note is as said, by the document's words.
func plainMay(x api.Note) bool {
	if !in(x.Kind, 1, 19) || !in(x.From, 1, 64) || !in(x.To, 1, 64) || x.From == x.To {
		return false
	}
	// Each letter, whether the note has none of it, and whether what it has may be.
	for _, y := range []struct {
		letter    string
		none, may bool
	}{
		{"c", x.Call == api.Call{}, in(x.Call.Node, 1, 64) && in(x.Call.Boot, 1, 1<<31-1) && in(x.Call.N, 1, 1<<31-1)},
		{"s", x.Set == 0, in(x.Set, 1, 1<<31-1)},
		{"h", x.Home == 0, in(x.Home, 1, 64)},
		{"b", x.Ballot == api.Ballot{}, plainBallot(x.Ballot) && x.Ballot != api.Ballot{}},
		{"o", x.Other == api.Ballot{}, plainBallot(x.Other)},
		{"y", !x.Yes, true},
		{"d", x.ID == api.ID{}, true},
		{"x", len(x.Data) == 0, true},
		{"i", len(x.IDs) == 0, len(x.IDs) <= 64},
		{"w", len(x.Words) == 0, len(x.Words) <= 64 && !slices.ContainsFunc(x.Words, func(m api.Member) bool {
			return !in(m.ID, 1, 64) || !in(m.Status, 1, 4) || !in(m.Inc, 0, 1<<31-1)
		})},
	} {
		if is := strings.Contains(has(x.Kind), y.letter); is && !y.may || !is && !y.none {
			return false
		}
	}
	if strings.Contains(has(x.Kind), "yx") && !x.Yes && len(x.Data) > 0 {
		return false
	}
	return x.Kind != api.NoteAccepted || !x.Yes || x.Other == api.Ballot{}
}

// plainBody tells the bytes within the frame of a note that may be.
func plainBody(x api.Note) []byte {
	var b []byte
	put := func(l ...int) {
		for _, n := range l {
			b = binary.AppendUvarint(b, uint64(n))
		}
	}
	put(x.Kind, x.From, x.To)
	for _, letter := range has(x.Kind) {
		switch letter {
		case 'c':
			put(x.Call.Node, x.Call.Boot, x.Call.N)
		case 's':
			put(x.Set)
		case 'h':
			put(x.Home)
		case 'b':
			put(x.Ballot.N, x.Ballot.Node)
		case 'o':
			put(x.Other.N, x.Other.Node)
		case 'y':
			n := 0
			if x.Yes {
				n = 1
			}
			put(n)
		case 'd':
			b = append(b, x.ID[:]...)
		case 'x':
			put(len(x.Data))
			b = append(b, x.Data...)
		case 'i':
			put(len(x.IDs))
			for _, y := range x.IDs {
				b = append(b, y[:]...)
			}
		case 'w':
			put(len(x.Words))
			for _, y := range x.Words {
				put(y.ID, y.Status, y.Inc)
			}
		}
	}
	return b
}

// plainFrame tells the frame of bytes, however many.
func plainFrame(b []byte) []byte {
	out := binary.LittleEndian.AppendUint32(nil, uint32(len(b)))
	out = binary.LittleEndian.AppendUint32(out, crc32.ChecksumIEEE(b))
	return append(out, b...)
}

// plainPut tells a note's bytes, or the error.
func plainPut(x api.Note) ([]byte, api.Errno) {
	if !plainMay(x) {
		return nil, api.ErrArg
	}
	b := plainBody(x)
	if len(b) > 4000 {
		return nil, api.ErrLong
	}
	return plainFrame(b), api.OK
}

// plainReader reads numbers and bytes without any bounds but how many there are.
type plainReader struct {
	b    []byte
	fail bool
}

func (r *plainReader) number() int {
	n, size := binary.Uvarint(r.b)
	if size <= 0 || n > math.MaxInt {
		r.fail, r.b = true, nil
		return 0
	}
	r.b = r.b[size:]
	return int(n)
}

func (r *plainReader) take(n int) []byte {
	if n > len(r.b) {
		r.fail, r.b = true, nil
		return nil
	}
	b := r.b[:n]
	r.b = r.b[n:]
	return b
}

// plainGet tells the note of bytes: what is read of them, if that is a note, and just they are its bytes.
func plainGet(b []byte) (api.Note, api.Errno) {
	if len(b) < 9 {
		return api.Note{}, api.ErrForm
	}
	r := &plainReader{b: b[8:]}
	x := api.Note{Kind: r.number(), From: r.number(), To: r.number()}
	if !in(x.Kind, 1, 19) {
		return api.Note{}, api.ErrForm
	}
	for _, letter := range has(x.Kind) {
		switch letter {
		case 'c':
			x.Call = api.Call{Node: r.number(), Boot: r.number(), N: r.number()}
		case 's':
			x.Set = r.number()
		case 'h':
			x.Home = r.number()
		case 'b':
			x.Ballot = api.Ballot{N: r.number(), Node: r.number()}
		case 'o':
			x.Other = api.Ballot{N: r.number(), Node: r.number()}
		case 'y':
			x.Yes = r.number() == 1
		case 'd':
			copy(x.ID[:], r.take(32))
		case 'x':
			x.Data = slices.Clone(r.take(r.number()))
		case 'i':
			for n := r.number(); n > 0 && !r.fail; n-- {
				x.IDs = append(x.IDs, [32]byte(append(slices.Clone(r.take(32)), make([]byte, 32)...)[:32]))
			}
		case 'w':
			for n := r.number(); n > 0 && !r.fail; n-- {
				x.Words = append(x.Words, api.Member{ID: r.number(), Status: r.number(), Inc: r.number()})
			}
		}
	}
	if same, e := plainPut(x); r.fail || e != api.OK || !bytes.Equal(same, b) {
		return api.Note{}, api.ErrForm
	}
	return x, api.OK
}

// text tells all of a note: the same for the same ones alone.
func text(x api.Note) string {
	return fmt.Sprintf("kind %d, %d to %d, %v, set %d, home %d, %v, %v, %v, id %x, data %q, ids %x, words %v",
		x.Kind, x.From, x.To, x.Call, x.Set, x.Home, x.Ballot, x.Other, x.Yes, x.ID, x.Data, x.IDs, x.Words)
}

// short is a text cut to some length.
func short(s string) string { return s[:min(len(s), 600)] }

// puts holds Check and Put against the document's words; what is put is got as it was.
func puts(t *testing.T, x api.Note) (b []byte) {
	t.Helper()
	want, e := plainPut(x)
	if is := wire.Check(x); is != e {
		t.Fatalf("check %s: %v, not %v", short(text(x)), is, e)
	}
	b, is := wire.Put(x)
	if is != e || !bytes.Equal(b, want) {
		t.Fatalf("put %s: %v, %v, not %v, %v", short(text(x)), b, is, want, e)
	}
	if e == api.OK {
		if y, is := wire.Get(b); is != api.OK || text(x) != text(y) || !wire.Same(x, y) {
			t.Fatalf("get of the bytes of %s: %s, %v", short(text(x)), short(text(y)), is)
		}
	}
	return b
}

// gets holds Get against the document's words; what is got is put as it was. It tells whether the bytes are a note's.
func gets(t *testing.T, b []byte) bool {
	t.Helper()
	want, e := plainGet(b)
	x, is := wire.Get(b)
	if is != e || text(x) != text(want) {
		t.Fatalf("get %v: %s, %v, not %s, %v", b, short(text(x)), is, short(text(want)), e)
	}
	if e != api.OK {
		return false
	}
	if again, is := wire.Put(x); is != api.OK || !bytes.Equal(again, b) {
		t.Fatalf("put %s: %v, %v, not %v", short(text(x)), again, is, b)
	}
	return true
}

// drawn tells notes by chance: each field of a kind within its bounds, at both of them often.
type drawn struct{ *rand.Rand }

func (r drawn) from(low, high int) int {
	switch r.Intn(4) {
	case 0:
		return low
	case 1:
		return high
	case 2:
		return low + r.Intn(min(high-low, 300)+1)
	default:
		return low + r.Intn(high-low+1)
	}
}

func (r drawn) ballot() api.Ballot {
	return api.Ballot{N: r.from(1, 1<<31-1), Node: r.from(1, 64)}
}

func (r drawn) id() (x api.ID) {
	if r.Intn(4) > 0 {
		r.Read(x[:])
	}
	return x
}

func (r drawn) note(kind int) api.Note {
	x := api.Note{Kind: kind, From: r.from(1, 64), To: r.from(1, 64)}
	if x.From == x.To {
		x.To = x.From%64 + 1
	}
	for _, letter := range has(kind) {
		switch letter {
		case 'c':
			x.Call = api.Call{Node: r.from(1, 64), Boot: r.from(1, 1<<31-1), N: r.from(1, 1<<31-1)}
		case 's':
			x.Set = r.from(1, 1<<31-1)
		case 'h':
			x.Home = r.from(1, 64)
		case 'b':
			x.Ballot = r.ballot()
		case 'o':
			if r.Intn(3) > 0 {
				x.Other = r.ballot()
			}
		case 'y':
			x.Yes = r.Intn(2) > 0
			if x.Yes && kind == api.NoteAccepted {
				x.Other = api.Ballot{}
			}
		case 'd':
			x.ID = r.id()
		case 'x':
			if x.Yes || !strings.Contains(has(kind), "y") {
				x.Data = make([]byte, []int{0, 1, 20, 127, 128, 1024, r.Intn(3000), 3900 + r.Intn(150)}[r.Intn(8)])
				r.Read(x.Data)
			}
		case 'i':
			for range r.from(0, 64) {
				x.IDs = append(x.IDs, r.id())
			}
		case 'w':
			for range r.from(0, 64) {
				x.Words = append(x.Words, api.Member{ID: r.from(1, 64), Status: r.from(1, 4), Inc: r.from(0, 1<<31-1)})
			}
		}
	}
	return x
}

// spoil changes one thing of a note in some way, mostly so that it may not be any more.
func (r drawn) spoil(x api.Note) api.Note {
	n := []int{math.MinInt, -1, 0, 1, 2, 5, 19, 20, 64, 65, 128, 1<<31 - 1, 1 << 31, 1<<32 + 1, 1<<62 - 1, 1 << 62, math.MaxInt}[r.Intn(17)]
	x.IDs, x.Words = slices.Clone(x.IDs), slices.Clone(x.Words)
	numbers := []*int{&x.Kind, &x.From, &x.To, &x.Call.Node, &x.Call.Boot, &x.Call.N, &x.Set, &x.Home, &x.Ballot.N, &x.Ballot.Node, &x.Other.N, &x.Other.Node}
	if len(x.Words) > 0 {
		m := &x.Words[r.Intn(len(x.Words))]
		numbers = append(numbers, &m.ID, &m.Status, &m.Inc)
	}
	switch k := r.Intn(len(numbers) + 6); k - len(numbers) {
	case 0:
		x.Yes = !x.Yes
	case 1:
		x.ID[r.Intn(32)] ^= 1
	case 2:
		x.Data = make([]byte, []int{0, 1, 3000, 4000, 4001, 5000}[r.Intn(6)])
	case 3:
		x.IDs = make([]api.ID, []int{0, 1, 63, 64, 65, 66, 1000}[r.Intn(7)])
	case 4:
		x.Words = slices.Repeat([]api.Member{{ID: 1, Status: api.Alive}}, []int{0, 1, 63, 64, 65, 66, 1000}[r.Intn(7)])
	case 5:
		x.Ballot, x.Other = x.Other, x.Ballot
	default:
		*numbers[k] = n
	}
	return x
}

// P15.1 to P15.3: notes of each kind by chance, within their bounds and at them.
func TestNotesByChance(t *testing.T) {
	r := drawn{rand.New(rand.NewSource(151))}
	for kind := 1; kind < api.Notes; kind++ {
		fit := 0
		for range 600 {
			if b := puts(t, r.note(kind)); b != nil {
				fit++
				if !gets(t, b) {
					t.Fatalf("%v: no note", b)
				}
			}
		}
		if fit < 450 {
			t.Errorf("kind %d: %d notes alone fit", kind, fit)
		}
	}
}

// P15.1, P15.2: notes of each kind of which something is changed, once or more often.
func TestWrongNotesByChance(t *testing.T) {
	r := drawn{rand.New(rand.NewSource(152))}
	count := map[api.Errno]int{}
	for kind := 1; kind < api.Notes; kind++ {
		for range 2000 {
			x := r.note(kind)
			for range 1 + r.Intn(2)*r.Intn(3) {
				x = r.spoil(x)
			}
			puts(t, x)
			count[wire.Check(x)]++
		}
	}
	if count[api.OK] < 2500 || count[api.ErrArg] < 10000 || count[api.ErrLong] < 250 || len(count) != 3 {
		t.Errorf("%v", count)
	}
}

// P15.2, P15.3: what is within a frame that stands, of each kind: each byte is each other one in turn, goes, or gets another one ahead of it.
func TestEachByteTurned(t *testing.T) {
	notes, others := 0, 0
	ask := func(b []byte) {
		t.Helper()
		if gets(t, plainFrame(b)) {
			notes++
		} else {
			others++
		}
	}
	for _, x := range append(each(), edges()...) {
		b := plainBody(x)
		if len(b) > 150 {
			continue
		}
		for at := range b {
			ask(slices.Delete(slices.Clone(b), at, at+1))
			ask(b[:at])
			ask(b[at:])
			for c := range 256 {
				turned := slices.Clone(b)
				turned[at] = byte(c)
				ask(turned)
				// An id's bytes are all alike to a reader.
				if c < 4 || c > 250 || c == 128 || c == 65 {
					ask(slices.Insert(slices.Clone(b), at, byte(c)))
				}
			}
		}
		for c := range 256 {
			ask(append(slices.Clone(b), byte(c)))
		}
	}
	if notes < 100000 || others < 100000 {
		t.Errorf("%d notes, %d others", notes, others)
	}
}

// P15.2: all short records of few bytes, in frames that stand.
func TestShortRecords(t *testing.T) {
	letters := []byte{0, 1, 2, 4, 13, 14, 18, 64, 65, 128, 255}
	notes := 0
	var all func(b []byte)
	all = func(b []byte) {
		if gets(t, plainFrame(b)) {
			notes++
		}
		if len(b) < 5 {
			for _, c := range letters {
				all(append(b[:len(b):len(b)], c))
			}
		}
	}
	all(nil)
	// From 1, 2, 4, 13, 14, 18 or 64 to another one of these: Full 4 of no words, and of set 1, 2, 4, 13, 14, 18, 64 or 65 Decide 13, Mend 18 with nothing.
	if notes != 7*6*(1+8+8) {
		t.Errorf("%d notes", notes)
	}
}

// P15.2, P15.3: bytes of notes that are turned, cut, lengthened, or with a piece taken out, laid in or doubled; in a frame that stands, or as they are then.
func TestBytesByChance(t *testing.T) {
	r := drawn{rand.New(rand.NewSource(153))}
	notes := 0
	for range 60000 {
		x := r.note(1 + r.Intn(19))
		x.IDs, x.Words, x.Data = x.IDs[:min(len(x.IDs), 3)], x.Words[:min(len(x.Words), 3)], x.Data[:min(len(x.Data), 200)]
		whole := r.Intn(3) == 0
		b := plainBody(x)
		if whole {
			b = plainFrame(b)
		}
		for range r.Intn(3) {
			at := r.Intn(len(b) + 1)
			to := at + r.Intn(min(len(b)-at, 9)+1)
			piece := make([]byte, 1+r.Intn(5))
			r.Read(piece)
			switch r.Intn(5) {
			case 0:
				if at < len(b) {
					b[at] ^= 1 << r.Intn(8)
				}
			case 1:
				b = b[:at]
			case 2:
				b = slices.Delete(b, at, to)
			case 3:
				b = slices.Insert(b, at, piece...)
			case 4:
				b = slices.Insert(b, at, slices.Clone(b[at:to])...)
			}
		}
		if !whole {
			b = plainFrame(b)
		}
		if gets(t, b) {
			notes++
		}
	}
	if notes < 10000 || notes > 50000 {
		t.Errorf("%d of 60000 are notes", notes)
	}
}

// P15.3: no note's bytes begin with another one's; of two unlike notes they are unlike.
func TestNoneBeginsWithAnother(t *testing.T) {
	r := drawn{rand.New(rand.NewSource(154))}
	seen := map[string]string{}
	add := func(x api.Note) {
		if b, e := wire.Put(x); e == api.OK {
			if was, is := seen[string(b)]; is && was != text(x) {
				t.Fatalf("%s and %s have the same bytes", was, text(x))
			}
			seen[string(b)] = text(x)
		}
	}
	for _, x := range append(each(), edges()...) {
		add(x)
	}
	for range 20000 {
		x := r.note(1 + r.Intn(19))
		x.IDs, x.Words, x.Data = x.IDs[:min(len(x.IDs), 2)], x.Words[:min(len(x.Words), 2)], x.Data[:min(len(x.Data), 9)]
		add(x)
	}
	var all []string
	for b := range seen {
		all = append(all, b)
	}
	slices.Sort(all)
	// In order whatever begins with a text stands right behind it.
	for i := 1; i < len(all); i++ {
		if strings.HasPrefix(all[i], all[i-1]) {
			t.Errorf("%v begins with %v", []byte(all[i]), []byte(all[i-1]))
		}
	}
}
