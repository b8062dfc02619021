package wire_test

import (
	"bytes"
	"math"
	"slices"
	"strings"
	"testing"

	"chartulary/api"
	"chartulary/wire"
)

// idOf tells an id of bytes that count on from n.
func idOf(n byte) (x api.ID) {
	for i := range x {
		x[i] = n + byte(i)
	}
	return x
}

// each tells a note of each kind, in their order, by hand.
func each() []api.Note {
	c, d := api.Call{Node: 2, Boot: 1, N: 3}, idOf(100)
	b, o := api.Ballot{N: 7, Node: 3}, api.Ballot{N: 200, Node: 4}
	w := []api.Member{{ID: 3, Status: api.Suspect, Inc: 130}, {ID: 1, Status: api.Alive}}
	return []api.Note{
		{Kind: api.NotePing, From: 1, To: 2, Call: c, Words: w},
		{Kind: api.NoteAck, From: 1, To: 2, Call: c},
		{Kind: api.NoteAsk, From: 1, To: 2, Call: c, Home: 5, Words: w[:1]},
		{Kind: api.NoteFull, From: 1, To: 2, Words: w},
		{Kind: api.NotePut, From: 1, To: 2, Call: c, Set: 300, ID: d, Home: 6, Data: []byte("ab")},
		{Kind: api.NotePutAck, From: 1, To: 2, Call: c, Set: 300, ID: d, Home: 6, Yes: true},
		{Kind: api.NoteGet, From: 1, To: 2, Call: c, ID: d},
		{Kind: api.NoteGot, From: 1, To: 2, Call: c, ID: d, Yes: true, Data: []byte("ab")},
		{Kind: api.NotePrepare, From: 1, To: 2, Call: c, Set: 5, Ballot: b},
		{Kind: api.NotePromise, From: 1, To: 2, Call: c, Set: 5, Ballot: b, Other: o, Yes: true, Data: []byte("ab")},
		{Kind: api.NoteAccept, From: 1, To: 2, Call: c, Set: 5, Ballot: b, Data: []byte("ab")},
		{Kind: api.NoteAccepted, From: 1, To: 2, Call: c, Set: 5, Ballot: b, Other: o},
		{Kind: api.NoteDecide, From: 1, To: 2, Set: 5, Data: []byte("ab")},
		{Kind: api.NoteLearn, From: 1, To: 2, Call: c, Set: 5},
		{Kind: api.NoteTell, From: 1, To: 2, Call: c, Set: 5, Yes: true, Data: []byte("ab")},
		{Kind: api.NoteHint, From: 1, To: 2, Call: c, Set: 5, ID: d, Data: []byte("ab")},
		{Kind: api.NoteHintAck, From: 1, To: 2, Call: c, Set: 5, ID: d},
		{Kind: api.NoteMend, From: 1, To: 2, Set: 5, IDs: []api.ID{d, idOf(9)}},
		{Kind: api.NoteWant, From: 1, To: 2, Set: 5, IDs: []api.ID{d}},
	}
}

// edges tells notes that just may be, beside those of each.
func edges() []api.Note {
	const top = 1<<31 - 1
	c, b := api.Call{Node: 64, Boot: top, N: top}, api.Ballot{N: top, Node: 64}
	one := api.Call{Node: 1, Boot: 1, N: 1}
	return []api.Note{
		{Kind: api.NotePing, From: 64, To: 63, Call: c, Words: slices.Repeat([]api.Member{{ID: 64, Status: api.Left, Inc: top}}, 64)},
		{Kind: api.NoteAsk, From: 1, To: 64, Call: one, Home: 64}, {Kind: api.NoteAsk, From: 64, To: 1, Call: one, Home: 1},
		{Kind: api.NoteFull, From: 3, To: 2},
		{Kind: api.NotePut, From: 3, To: 2, Call: one, Set: 1, Home: 3},
		{Kind: api.NotePutAck, From: 3, To: 2, Call: one, Set: top, Home: 2},
		{Kind: api.NoteGet, From: 3, To: 2, Call: c},
		{Kind: api.NoteGot, From: 3, To: 2, Call: c}, {Kind: api.NoteGot, From: 3, To: 2, Call: c, Yes: true}, {Kind: api.NoteGot, From: 3, To: 2, Call: c, ID: idOf(1)},
		{Kind: api.NotePrepare, From: 3, To: 2, Call: c, Set: 1, Ballot: b}, {Kind: api.NotePrepare, From: 3, To: 2, Call: c, Set: 1, Ballot: api.Ballot{N: 1, Node: 1}},
		{Kind: api.NotePromise, From: 3, To: 2, Call: one, Set: 1, Ballot: b}, {Kind: api.NotePromise, From: 3, To: 2, Call: one, Set: 1, Ballot: b, Yes: true},
		{Kind: api.NotePromise, From: 3, To: 2, Call: one, Set: 1, Ballot: b, Other: b}, {Kind: api.NotePromise, From: 3, To: 2, Call: one, Set: 1, Ballot: b, Yes: true, Other: b},
		{Kind: api.NotePromise, From: 3, To: 2, Call: one, Set: 1, Ballot: b, Yes: true, Data: []byte{0}},
		{Kind: api.NoteAccept, From: 3, To: 2, Call: one, Set: 1, Ballot: b},
		{Kind: api.NoteAccepted, From: 3, To: 2, Call: one, Set: 1, Ballot: b}, {Kind: api.NoteAccepted, From: 3, To: 2, Call: one, Set: 1, Ballot: b, Yes: true},
		{Kind: api.NoteAccepted, From: 3, To: 2, Call: one, Set: 1, Ballot: b, Other: b},
		{Kind: api.NoteDecide, From: 3, To: 2, Set: 1},
		{Kind: api.NoteLearn, From: 3, To: 2, Call: c, Set: top},
		{Kind: api.NoteTell, From: 3, To: 2, Call: c, Set: 1}, {Kind: api.NoteTell, From: 3, To: 2, Call: c, Set: 1, Yes: true},
		{Kind: api.NoteHint, From: 3, To: 2, Call: c, Set: 1},
		{Kind: api.NoteHintAck, From: 3, To: 2, Call: c, Set: 1},
		{Kind: api.NoteMend, From: 3, To: 2, Set: 1}, {Kind: api.NoteMend, From: 3, To: 2, Set: top, IDs: make([]api.ID, 64)},
		{Kind: api.NoteWant, From: 3, To: 2, Set: 1}, {Kind: api.NoteWant, From: 3, To: 2, Set: top, IDs: slices.Repeat([]api.ID{idOf(200)}, 64)},
	}
}

// The document's examples.
func TestExamples(t *testing.T) {
	x := api.Note{Kind: api.NoteHintAck, From: 1, To: 2, Call: api.Call{Node: 2, Boot: 1, N: 3}, Set: 5}
	if b, e := wire.Put(x); e != api.OK || !bytes.Equal(b[8:], append([]byte{17, 1, 2, 2, 1, 3, 5}, make([]byte, 32)...)) {
		t.Errorf("HintAck: %v, %v", b, e)
	}
	x = api.Note{Kind: api.NoteLearn, From: 3, To: 4, Call: api.Call{Node: 3, Boot: 1, N: 9}, Set: 300}
	if b, e := wire.Put(x); e != api.OK || !bytes.Equal(b[8:], []byte{14, 3, 4, 3, 1, 9, 172, 2}) {
		t.Errorf("Learn: %v, %v", b, e)
	}
	x.Yes = true
	tell := api.Note{Kind: api.NoteTell, From: 3, To: 4, Call: x.Call, Set: 300, Data: []byte("a")}
	for _, x := range []api.Note{{Kind: api.NotePing, From: 1, To: 1, Call: x.Call}, {Kind: 20, From: 1, To: 2}, x, tell} {
		if e := wire.Check(x); e != api.ErrArg {
			t.Errorf("check %s: %v", text(x), e)
		}
	}
	if x, e := wire.Get(nil); e != api.ErrForm || text(x) != text(api.Note{}) {
		t.Errorf("get of none: %s, %v", text(x), e)
	}
}

// P15.2: a note of each kind is written as the document says, by hand; its frame as layer 4 says.
func TestBytesOfEachKind(t *testing.T) {
	d, e := idOf(100), idOf(9)
	join := func(l ...any) (b []byte) {
		for _, x := range l {
			switch x := x.(type) {
			case int:
				b = append(b, byte(x))
			case api.ID:
				b = append(b, x[:]...)
			}
		}
		return b
	}
	for i, want := range [][]byte{
		join(1, 1, 2, 2, 1, 3, 2, 3, 2, 130, 1, 1, 1, 0),
		join(2, 1, 2, 2, 1, 3, 0),
		join(3, 1, 2, 2, 1, 3, 5, 1, 3, 2, 130, 1),
		join(4, 1, 2, 2, 3, 2, 130, 1, 1, 1, 0),
		join(5, 1, 2, 2, 1, 3, 172, 2, d, 6, 2, 97, 98),
		join(6, 1, 2, 2, 1, 3, 172, 2, d, 6, 1),
		join(7, 1, 2, 2, 1, 3, d),
		join(8, 1, 2, 2, 1, 3, d, 1, 2, 97, 98),
		join(9, 1, 2, 2, 1, 3, 5, 7, 3),
		join(10, 1, 2, 2, 1, 3, 5, 7, 3, 200, 1, 4, 1, 2, 97, 98),
		join(11, 1, 2, 2, 1, 3, 5, 7, 3, 2, 97, 98),
		join(12, 1, 2, 2, 1, 3, 5, 7, 3, 200, 1, 4, 0),
		join(13, 1, 2, 5, 2, 97, 98),
		join(14, 1, 2, 2, 1, 3, 5),
		join(15, 1, 2, 2, 1, 3, 5, 1, 2, 97, 98),
		join(16, 1, 2, 2, 1, 3, 5, d, 2, 97, 98),
		join(17, 1, 2, 2, 1, 3, 5, d),
		join(18, 1, 2, 5, 2, d, e),
		join(19, 1, 2, 5, 1, d),
	} {
		x := each()[i]
		if b := puts(t, x); x.Kind != i+1 || !bytes.Equal(b, plainFrame(want)) {
			t.Errorf("kind %d: %v, not %v", i+1, b, plainFrame(want))
		}
	}
}

// P15.1, P15.2: what just may be.
func TestEdges(t *testing.T) {
	for _, x := range edges() {
		if b := puts(t, x); b == nil {
			t.Errorf("refused: %s", short(text(x)))
		}
	}
}

// P15.1: of no kind; between nodes that can't be, or the same.
func TestHeads(t *testing.T) {
	wrong := []int{math.MinInt, math.MinInt32, -64, -1, 0, 65, 66, 128, 255, 256, 257, 1 << 31, 1 << 32, 1<<32 + 1, 1 << 62, math.MaxInt}
	for _, x := range append(each(), edges()...) {
		for _, n := range append(wrong, 20, 21, 127) {
			y := x
			y.Kind = n
			refused(t, y)
		}
		for _, n := range wrong {
			y := x
			y.From = n
			refused(t, y)
			y.To = n
			refused(t, y)
			y.From = x.From
			refused(t, y)
		}
		for from := 1; from <= 64; from++ {
			for to := 1; to <= 64; to++ {
				y := x
				y.From, y.To = from, to
				if e := wire.Check(y); (e == api.OK) != (from != to) || e != api.OK && e != api.ErrArg {
					t.Fatalf("from %d to %d: %v", from, to, e)
				}
			}
		}
	}
}

// refused asks that a note may not be.
func refused(t *testing.T, x api.Note) {
	t.Helper()
	if e := wire.Check(x); e != api.ErrArg {
		t.Errorf("check %s: %v", short(text(x)), e)
	}
	if b, e := wire.Put(x); e != api.ErrArg || b != nil {
		t.Errorf("put %s: %v, %v", short(text(x)), b, e)
	}
}

// P15.1: numbers of each letter, at both bounds, and beyond them.
func TestBounds(t *testing.T) {
	const top = 1<<31 - 1
	for _, x := range append(each(), edges()...) {
		hold := func(letter string, low, high int, field func(*api.Note) *int) {
			t.Helper()
			if !strings.Contains(has(x.Kind), letter) {
				low, high = 0, 0
			}
			for _, n := range []int{math.MinInt, math.MinInt32, -1, 0, 1, 2, 3, 4, 5, 63, 64, 65, 128, top - 1, top, top + 1, 1 << 32, 1<<32 + 1, 1<<62 - 1, 1 << 62, math.MaxInt} {
				y := x
				y.Words = slices.Clone(x.Words)
				*field(&y) = n
				if low <= n && n <= high {
					puts(t, y)
					if e := wire.Check(y); e != api.OK {
						t.Errorf("check %s: %v", short(text(y)), e)
					}
				} else {
					refused(t, y)
				}
			}
		}
		hold("c", 1, 64, func(x *api.Note) *int { return &x.Call.Node })
		hold("c", 1, top, func(x *api.Note) *int { return &x.Call.Boot })
		hold("c", 1, top, func(x *api.Note) *int { return &x.Call.N })
		hold("s", 1, top, func(x *api.Note) *int { return &x.Set })
		hold("h", 1, 64, func(x *api.Note) *int { return &x.Home })
		hold("b", 1, top, func(x *api.Note) *int { return &x.Ballot.N })
		hold("b", 1, 64, func(x *api.Note) *int { return &x.Ballot.Node })
		if (x.Other != api.Ballot{}) {
			hold("o", 1, top, func(x *api.Note) *int { return &x.Other.N })
			hold("o", 1, 64, func(x *api.Note) *int { return &x.Other.Node })
		} else {
			hold("none", 0, 0, func(x *api.Note) *int { return &x.Other.N })
			hold("none", 0, 0, func(x *api.Note) *int { return &x.Other.Node })
		}
		for i := range x.Words {
			hold("w", 1, 64, func(x *api.Note) *int { return &x.Words[i].ID })
			hold("w", 1, 4, func(x *api.Note) *int { return &x.Words[i].Status })
			hold("w", 0, top, func(x *api.Note) *int { return &x.Words[i].Inc })
		}
	}
}

// P15.1: what a kind has not may not be there.
func TestWhatAKindHasNot(t *testing.T) {
	for _, x := range append(each(), edges()...) {
		for letter, change := range map[string]func(*api.Note){
			"c": func(x *api.Note) { x.Call = api.Call{Node: 1, Boot: 1, N: 1} },
			"s": func(x *api.Note) { x.Set = 1 },
			"h": func(x *api.Note) { x.Home = 1 },
			"b": func(x *api.Note) { x.Ballot = api.Ballot{N: 1, Node: 1} },
			"o": func(x *api.Note) { x.Other = api.Ballot{N: 1, Node: 1} },
			"y": func(x *api.Note) { x.Yes = true },
			"d": func(x *api.Note) { x.ID[31] = 1 },
			"x": func(x *api.Note) { x.Data = []byte{0} },
			"i": func(x *api.Note) { x.IDs = make([]api.ID, 1) },
			"w": func(x *api.Note) { x.Words = []api.Member{{ID: 1, Status: api.Alive}} },
		} {
			y := x
			change(&y)
			puts(t, y)
			if !strings.Contains(has(x.Kind), letter) {
				refused(t, y)
			}
		}
		for at := range x.ID {
			y := x
			y.ID[at] ^= 128
			if strings.Contains(has(x.Kind), "d") {
				puts(t, y)
			} else {
				refused(t, y)
			}
		}
		// Lists that are empty, but not nil, are as those that are nil.
		y := x
		y.Data, y.IDs, y.Words = append([]byte{}, x.Data...), append([]api.ID{}, x.IDs...), append([]api.Member{}, x.Words...)
		if b := puts(t, y); !bytes.Equal(b, puts(t, x)) || !wire.Same(x, y) {
			t.Errorf("with lists that are not nil: %s", short(text(y)))
		}
	}
}

// P15.1: what goes with Yes, and what goes without it.
func TestYes(t *testing.T) {
	c, b, o, a := api.Call{Node: 1, Boot: 1, N: 1}, api.Ballot{N: 2, Node: 2}, api.Ballot{N: 3, Node: 1}, []byte("a")
	for _, y := range []struct {
		x    api.Note
		want api.Errno
	}{
		{api.Note{Kind: api.NoteGot, Call: c, Yes: true, Data: a}, api.OK}, {api.Note{Kind: api.NoteGot, Call: c, Data: a}, api.ErrArg},
		{api.Note{Kind: api.NoteTell, Call: c, Set: 1, Yes: true, Data: a}, api.OK}, {api.Note{Kind: api.NoteTell, Call: c, Set: 1, Data: a}, api.ErrArg},
		{api.Note{Kind: api.NotePromise, Call: c, Set: 1, Ballot: b, Yes: true, Other: o, Data: a}, api.OK}, {api.Note{Kind: api.NotePromise, Call: c, Set: 1, Ballot: b, Other: o, Data: a}, api.ErrArg},
		{api.Note{Kind: api.NotePromise, Call: c, Set: 1, Ballot: b, Yes: true, Data: a}, api.OK}, {api.Note{Kind: api.NotePromise, Call: c, Set: 1, Ballot: b, Data: a}, api.ErrArg},
		{api.Note{Kind: api.NotePromise, Call: c, Set: 1, Ballot: b, Other: o}, api.OK}, {api.Note{Kind: api.NotePromise, Call: c, Set: 1, Ballot: b, Yes: true, Other: o}, api.OK},
		{api.Note{Kind: api.NoteAccepted, Call: c, Set: 1, Ballot: b, Other: o}, api.OK}, {api.Note{Kind: api.NoteAccepted, Call: c, Set: 1, Ballot: b, Yes: true, Other: o}, api.ErrArg},
		{api.Note{Kind: api.NoteAccepted, Call: c, Set: 1, Ballot: b}, api.OK}, {api.Note{Kind: api.NoteAccepted, Call: c, Set: 1, Ballot: b, Yes: true}, api.OK},
		{api.Note{Kind: api.NotePutAck, Call: c, Set: 1, Home: 1}, api.OK}, {api.Note{Kind: api.NotePutAck, Call: c, Set: 1, Home: 1, Yes: true}, api.OK},
		// Without y data may be there as it likes.
		{api.Note{Kind: api.NoteAccept, Call: c, Set: 1, Ballot: b, Data: a}, api.OK}, {api.Note{Kind: api.NoteDecide, Set: 1, Data: a}, api.OK},
		// Half a ballot is none.
		{api.Note{Kind: api.NotePromise, Call: c, Set: 1, Ballot: b, Other: api.Ballot{N: 3}}, api.ErrArg}, {api.Note{Kind: api.NotePromise, Call: c, Set: 1, Ballot: b, Other: api.Ballot{Node: 1}}, api.ErrArg},
		{api.Note{Kind: api.NoteAccepted, Call: c, Set: 1, Ballot: b, Other: api.Ballot{N: 3}}, api.ErrArg}, {api.Note{Kind: api.NoteAccepted, Call: c, Set: 1, Ballot: b, Other: api.Ballot{Node: 1}}, api.ErrArg},
		{api.Note{Kind: api.NotePrepare, Call: c, Set: 1, Ballot: api.Ballot{N: 3}}, api.ErrArg}, {api.Note{Kind: api.NotePrepare, Call: c, Set: 1, Ballot: api.Ballot{Node: 1}}, api.ErrArg}, {api.Note{Kind: api.NotePrepare, Call: c, Set: 1}, api.ErrArg},
		{api.Note{Kind: api.NoteAccept, Call: c, Set: 1}, api.ErrArg}, {api.Note{Kind: api.NoteAccepted, Call: c, Set: 1, Other: o}, api.ErrArg}, {api.Note{Kind: api.NotePromise, Call: c, Set: 1, Other: o}, api.ErrArg},
	} {
		y.x.From, y.x.To = 1, 2
		puts(t, y.x)
		if e := wire.Check(y.x); e != y.want {
			t.Errorf("check %s: %v, not %v", text(y.x), e, y.want)
		}
	}
}

// P15.1: how many ids, and words, and in what order they stand, or how often.
func TestLists(t *testing.T) {
	for n := range 200 {
		var d []api.ID
		var w []api.Member
		for i := range n {
			d = append(d, idOf(byte(7*i)))
			w = append(w, api.Member{ID: 64 - i%3, Status: 1 + i%4, Inc: i})
		}
		for _, x := range []api.Note{
			{Kind: api.NoteMend, From: 2, To: 1, Set: 1, IDs: d}, {Kind: api.NoteWant, From: 2, To: 1, Set: 1, IDs: d},
			{Kind: api.NoteFull, From: 2, To: 1, Words: w}, {Kind: api.NotePing, From: 2, To: 1, Call: api.Call{Node: 1, Boot: 1, N: 1}, Words: w},
			{Kind: api.NoteAck, From: 2, To: 1, Call: api.Call{Node: 1, Boot: 1, N: 1}, Words: w}, {Kind: api.NoteAsk, From: 2, To: 1, Call: api.Call{Node: 1, Boot: 1, N: 1}, Home: 1, Words: w},
		} {
			puts(t, x)
			if e := wire.Check(x); (e == api.OK) != (n <= 64) {
				t.Errorf("%d in %d: %v", n, x.Kind, e)
			}
		}
	}
	refused(t, api.Note{Kind: api.NoteMend, From: 2, To: 1, Set: 1, IDs: make([]api.ID, 1<<20)})
	refused(t, api.Note{Kind: api.NoteFull, From: 2, To: 1, Words: make([]api.Member, 1<<20)})
}

// P15.1: the greatest notes of each kind that has data, by each number of bytes around the limit; what may not be is ErrArg, however long.
func TestLong(t *testing.T) {
	for _, x := range append(each(), edges()...) {
		if !strings.Contains(has(x.Kind), "x") || strings.Contains(has(x.Kind), "y") && !x.Yes {
			continue
		}
		for _, n := range []int{3000, 3900, 3999, 4000, 4001, 4002, 5000, 1 << 14, 1 << 20} {
			y := x
			y.Data = make([]byte, n)
			puts(t, y)
			y.To = y.From
			refused(t, y)
			y.To, y.Kind = x.To, 20
			refused(t, y)
		}
		fit := 0
		for n := 3850; n <= 4010; n++ {
			y := x
			y.Data = bytes.Repeat([]byte{byte(n)}, n)
			b, e := wire.Put(y)
			puts(t, y)
			if e == api.OK {
				fit = max(fit, len(b)-8)
				if gets(t, b); len(b) > 4008 {
					t.Errorf("%d bytes", len(b))
				}
			} else if e != api.ErrLong || b != nil || len(plainBody(y)) <= 4000 {
				t.Errorf("%d bytes of data: %d bytes, %v", n, len(b), e)
			}
		}
		if fit != 4000 {
			t.Errorf("kind %d: at most %d bytes", x.Kind, fit)
		}
	}
}

// P15.2: what is none's: without bytes, in two frames, with something behind or ahead, in no frame, or in one that does not stand.
func TestGetOfNone(t *testing.T) {
	none := func(what string, b []byte) {
		t.Helper()
		if x, e := wire.Get(b); e != api.ErrForm || text(x) != text(api.Note{}) {
			t.Errorf("%s: %s, %v", what, short(text(x)), e)
		}
		gets(t, b)
	}
	none("nil", nil)
	none("no bytes", []byte{})
	none("an empty frame", make([]byte, 8))
	none("noughts", make([]byte, 100))
	none("a frame of 4001 bytes", plainFrame(make([]byte, 4001)))
	none("a frame of 4000 noughts", plainFrame(make([]byte, 4000)))
	for _, x := range append(each(), edges()...) {
		b := puts(t, x)
		none("two frames", slices.Concat(b, b))
		none("no frame", b[8:])
		none("something ahead", append([]byte{0}, b...))
		none("a frame in a frame", plainFrame(b))
		for _, c := range []byte{0, 1, 128, 255} {
			none("something behind", append(slices.Clone(b), c))
			none("something behind in the frame", plainFrame(append(slices.Clone(b[8:]), c)))
		}
		for n := range b {
			none("cut", b[:n])
		}
		for at := range min(len(b), 300) {
			for _, bit := range []byte{1, 2, 4, 8, 16, 32, 64, 128, 255} {
				turned := slices.Clone(b)
				turned[at] ^= bit
				none("turned", turned)
			}
		}
	}
}

// P15.2: bytes in other forms than one, in frames that stand.
func TestOneForm(t *testing.T) {
	none := func(b ...byte) {
		t.Helper()
		if gets(t, plainFrame(b)) {
			t.Errorf("%v: a note", b)
		}
	}
	some := func(b ...byte) {
		t.Helper()
		if !gets(t, plainFrame(b)) {
			t.Errorf("%v: no note", b)
		}
	}
	some(13, 1, 2, 5, 0)
	none(141, 0, 1, 2, 5, 0) // a number with a last byte 0
	none(13, 129, 0, 2, 5, 0)
	none(13, 1, 2, 133, 0, 0)
	none(13, 1, 2, 5, 128, 0)
	none(141, 1, 1, 2, 5, 0) // kind 141
	none(0, 1, 2, 5, 0)
	none(20, 1, 2, 5, 0)
	none(13, 1, 1, 5, 0)
	none(13, 0, 1, 5, 0)
	none(13, 1, 65, 5, 0)
	none(13, 1, 2, 0, 0)
	some(13, 1, 2, 255, 255, 255, 255, 7, 0)
	none(13, 1, 2, 128, 128, 128, 128, 8, 0)
	none(13, 1, 2, 255, 255, 255, 255, 255, 255, 255, 255, 255, 1, 0)
	some(15, 1, 2, 1, 1, 1, 5, 1, 1, 9)
	none(15, 1, 2, 1, 1, 1, 5, 2, 1, 9) // Yes is 1, else 0
	none(15, 1, 2, 1, 1, 1, 5, 0, 1, 9)
	some(15, 1, 2, 1, 1, 1, 5, 0, 0)
	some(12, 1, 2, 1, 1, 1, 5, 7, 3, 0, 0, 1)
	none(12, 1, 2, 1, 1, 1, 5, 7, 3, 8, 4, 1)
	some(12, 1, 2, 1, 1, 1, 5, 7, 3, 8, 4, 0)
	none(12, 1, 2, 1, 1, 1, 5, 7, 3, 8, 0, 0)
	none(12, 1, 2, 1, 1, 1, 5, 7, 3, 0, 4, 0)
	none(12, 1, 2, 1, 1, 1, 5, 0, 0, 8, 4, 0)
	some(4, 1, 2, 1, 3, 4, 0)
	none(4, 1, 2, 1, 3, 5, 0)
	none(4, 1, 2, 1, 3, 0, 0)
	none(4, 1, 2, 1, 65, 4, 0)
	none(4, 1, 2, 1, 0, 4, 0)
	none(4, 1, 2, 2, 3, 4, 0)
	none(4, 1, 2, 0, 3, 4, 0)
	some(append([]byte{4, 1, 2, 64}, bytes.Repeat([]byte{3, 4, 0}, 64)...)...)
	none(append([]byte{4, 1, 2, 65}, bytes.Repeat([]byte{3, 4, 0}, 65)...)...)
	some(append([]byte{18, 1, 2, 5, 64}, make([]byte, 64*32)...)...)
	none(append([]byte{18, 1, 2, 5, 65}, make([]byte, 65*32)...)...)
	none(append([]byte{18, 1, 2, 5, 64}, make([]byte, 63*32)...)...)
	none(18, 1, 2, 5, 160, 31)
	none(18, 1, 2, 5, 255, 255, 255, 255, 255, 255, 255, 255, 63)
}

// P15.1: Same is of any two notes, and tells each field.
func TestSame(t *testing.T) {
	full := api.Note{Kind: 99, From: -1, To: -1, Call: api.Call{Node: 1, Boot: 2, N: 3}, Set: 4, Home: 5, Ballot: api.Ballot{N: 6, Node: 7}, Other: api.Ballot{N: 8, Node: 9},
		Yes: true, ID: idOf(3), Data: []byte("ab"), IDs: []api.ID{idOf(1), idOf(2)}, Words: []api.Member{{ID: 1, Status: 2, Inc: 3}, {ID: 4, Status: 5, Inc: 6}}}
	changes := []func(*api.Note){
		func(x *api.Note) { x.Kind++ }, func(x *api.Note) { x.From-- }, func(x *api.Note) { x.To++ },
		func(x *api.Note) { x.Call.Node++ }, func(x *api.Note) { x.Call.Boot++ }, func(x *api.Note) { x.Call.N += 1 << 32 },
		func(x *api.Note) { x.Set-- }, func(x *api.Note) { x.Home++ }, func(x *api.Note) { x.Ballot.N++ }, func(x *api.Note) { x.Ballot.Node++ },
		func(x *api.Note) { x.Other.N++ }, func(x *api.Note) { x.Other.Node++ }, func(x *api.Note) { x.Yes = !x.Yes },
		func(x *api.Note) { x.ID[0]++ }, func(x *api.Note) { x.ID[31]++ },
		func(x *api.Note) { x.Data = append(slices.Clone(x.Data), 0) }, func(x *api.Note) { x.IDs = append(slices.Clone(x.IDs), api.ID{}) }, func(x *api.Note) { x.Words = append(slices.Clone(x.Words), api.Member{}) },
	}
	inner := []func(*api.Note){
		func(x *api.Note) { x.Data = []byte("ac") }, func(x *api.Note) { x.Data = []byte("b") }, func(x *api.Note) { x.Data = nil },
		func(x *api.Note) { x.IDs = x.IDs[:1] }, func(x *api.Note) { x.IDs = []api.ID{idOf(2), idOf(1)} }, func(x *api.Note) { x.IDs = nil },
		func(x *api.Note) { x.Words = x.Words[1:] }, func(x *api.Note) { x.Words = []api.Member{x.Words[1], x.Words[0]} }, func(x *api.Note) { x.Words = nil },
		func(x *api.Note) { x.Words = []api.Member{{ID: 1, Status: 2, Inc: 3}, {ID: 5, Status: 5, Inc: 6}} },
		func(x *api.Note) { x.Words = []api.Member{{ID: 1, Status: 2, Inc: 3}, {ID: 4, Status: 4, Inc: 6}} },
		func(x *api.Note) { x.Words = []api.Member{{ID: 1, Status: 2, Inc: 3}, {ID: 4, Status: 5, Inc: 5}} },
	}
	notes := append(append(each(), edges()...), full, api.Note{})
	for i, x := range notes {
		for j, y := range notes {
			if is := wire.Same(x, y); is != (i == j) {
				t.Errorf("%s\n%s\n%v", short(text(x)), short(text(y)), is)
			}
		}
		for at, change := range changes {
			y := x
			change(&y)
			if wire.Same(x, y) || wire.Same(y, x) || !wire.Same(y, y) {
				t.Errorf("change %d of %s", at, short(text(x)))
			}
		}
	}
	for at, change := range inner {
		y := full
		change(&y)
		if wire.Same(full, y) || wire.Same(y, full) {
			t.Errorf("inner change %d", at)
		}
	}
	if !wire.Same(api.Note{}, api.Note{Data: []byte{}, IDs: []api.ID{}, Words: []api.Member{}}) {
		t.Error("lists that are empty are not as those that are nil")
	}
}

// room tells a note whose lists have wrong things in their spare room, and a function that asks whether all of them stay.
func room(t *testing.T, x api.Note) (api.Note, func()) {
	d := append(slices.Clone(x.Data), 7, 8)
	i := append(slices.Clone(x.IDs), idOf(50), idOf(60))
	w := append(slices.Clone(x.Words), api.Member{ID: -1}, api.Member{Status: 9})
	d2, i2, w2 := slices.Clone(d), slices.Clone(i), slices.Clone(w)
	x.Data, x.IDs, x.Words = d[:len(x.Data)], i[:len(x.IDs)], w[:len(x.Words)]
	return x, func() {
		t.Helper()
		if !bytes.Equal(d, d2) || !slices.Equal(i, i2) || !slices.Equal(w, w2) {
			t.Errorf("%s is changed, or its spare room is", short(text(x)))
		}
	}
}

// DOC.md, rule 4: what was handed in stays, its spare room too, which is not looked at; answers are new memory.
func TestMemory(t *testing.T) {
	for _, x := range append(each(), edges()...) {
		want := puts(t, x)
		y, stays := room(t, x)
		b, _ := wire.Put(y)
		again, _ := wire.Put(y)
		if wire.Check(y) != api.OK || !wire.Same(x, y) || !bytes.Equal(b, want) {
			t.Errorf("%s: its spare room is looked at", short(text(x)))
		}
		stays()
		bytesIn := append(slices.Clone(b), 1, 2, 3)
		first, e := wire.Get(bytesIn[:len(b)])
		second, _ := wire.Get(bytesIn[:len(b)])
		if e != api.OK || !bytes.Equal(bytesIn, append(slices.Clone(b), 1, 2, 3)) {
			t.Errorf("%s: got %v, or its bytes are changed", short(text(x)), e)
		}
		wipe(b, 255)
		wipe(bytesIn, 255)
		stays()
		wipe(first.Data, 255)
		wipe(first.IDs, idOf(255))
		wipe(first.Words, api.Member{ID: 77})
		if !bytes.Equal(again, want) || !wire.Same(second, x) {
			t.Errorf("%s: answers share memory", short(text(x)))
		}
	}
}

// wipe lays x over all of a list, its spare room too.
func wipe[T any](l []T, x T) {
	l = l[:cap(l)]
	for i := range l {
		l[i] = x
	}
}

// P1: the same calls tell the same, whatever was asked between.
func TestApart(t *testing.T) {
	var first [][]byte
	for range 3 {
		for i, x := range append(each(), edges()...) {
			b := puts(t, x)
			refused(t, api.Note{Kind: x.Kind})
			wire.Get(b[:len(b)-1])
			if i == len(first) {
				first = append(first, b)
			}
			if !bytes.Equal(b, first[i]) {
				t.Errorf("%s: %v, then %v", short(text(x)), first[i], b)
			}
		}
	}
}
