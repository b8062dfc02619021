package wire

import (
	"slices"

	"chartulary/api"
)

// headShape is the shape of what each note begins with: its kind, and two nodes.
const headShape = "nnn"

// What a note has, by letters.
const (
	call   = 'c'
	set    = 's'
	home   = 'h'
	ballot = 'b'
	other  = 'o'
	yes    = 'y'
	id     = 'd'
	data   = 'x'
	ids    = 'i'
	words  = 'w'
)

// form is what a kind's notes have, in order, by letters; and what of that is empty in those that say Yes, and in those that do not.
type form struct{ has, yes, no string }

// forms makes the table of all kinds.
func forms() map[int]form {
	return map[int]form{
		api.NotePing:     {has: "cw"},
		api.NoteAck:      {has: "cw"},
		api.NoteAsk:      {has: "chw"},
		api.NoteFull:     {has: "w"},
		api.NotePut:      {has: "csdhx"},
		api.NotePutAck:   {has: "csdhy"},
		api.NoteGet:      {has: "cd"},
		api.NoteGot:      {has: "cdyx", no: "x"},
		api.NotePrepare:  {has: "csb"},
		api.NotePromise:  {has: "csboyx", no: "x"},
		api.NoteAccept:   {has: "csbx"},
		api.NoteAccepted: {has: "csboy", yes: "o"},
		api.NoteDecide:   {has: "sx"},
		api.NoteLearn:    {has: "cs"},
		api.NoteTell:     {has: "csyx", no: "x"},
		api.NoteHint:     {has: "csdx"},
		api.NoteHintAck:  {has: "csd"},
		api.NoteMend:     {has: "si"},
		api.NoteWant:     {has: "si"},
	}
}

// shape tells the shape of a kind's bytes.
func (f form) shape() string {
	out := headShape
	for _, letter := range f.has {
		out += shapeOf(letter)
	}
	return out
}

// shapeOf tells the shape of what a letter says.
func shapeOf(letter rune) string {
	switch letter {
	case call:
		return "nnn"
	case ballot, other:
		return "nn"
	case id:
		return "d"
	case data:
		return "b"
	case ids:
		return "(d)"
	case words:
		return "(nnn)"
	default:
		return "n"
	}
}

// items tells what a note has as the items of its kind's shape.
func (f form) items(x api.Note) []api.Item {
	// A shape has a letter at least for each item that is of no list; a word has three.
	room := len(f.shape()) + len(x.IDs) + 3*len(x.Words)
	l := withNumbers(make([]api.Item, 0, room), x.Kind, x.From, x.To)
	for _, letter := range f.has {
		l = with(l, x, letter)
	}
	return l
}

// note tells the note that has these items, and nothing else; and whether it may be.
func (f form) note(l []api.Item) (api.Note, bool) {
	b := builder{reader: reader{left: l}}
	b.head()
	for _, letter := range f.has {
		b.lay(letter)
	}
	return b.note, !b.wrong && f.agrees(b.note)
}

// agrees tells whether what a note has agrees with what it says.
func (f form) agrees(x api.Note) bool {
	none := f.no
	if x.Yes {
		none = f.yes
	}
	for _, letter := range none {
		if slices.ContainsFunc(with(nil, x, letter), func(y api.Item) bool { return y.N != 0 || len(y.B) > 0 }) {
			return false
		}
	}
	return true
}

// with tells items, and behind them what a note has by a letter.
func with(l []api.Item, x api.Note, letter rune) []api.Item {
	switch letter {
	case call:
		return withNumbers(l, x.Call.Node, x.Call.Boot, x.Call.N)
	case set:
		return withNumbers(l, x.Set)
	case home:
		return withNumbers(l, x.Home)
	case ballot:
		return withNumbers(l, x.Ballot.N, x.Ballot.Node)
	case other:
		return withNumbers(l, x.Other.N, x.Other.Node)
	case yes:
		return withNumbers(l, truth(x.Yes))
	case id:
		return append(l, api.Item{ID: x.ID})
	case data:
		return append(l, api.Item{B: x.Data})
	case ids:
		l = withNumbers(l, len(x.IDs))
		for _, y := range x.IDs {
			l = append(l, api.Item{ID: y})
		}
	default:
		l = withNumbers(l, len(x.Words))
		for _, m := range x.Words {
			l = withNumbers(l, m.ID, m.Status, m.Inc)
		}
	}
	return l
}

// withNumbers tells items, and behind them one for each number.
func withNumbers(l []api.Item, numbers ...int) []api.Item {
	for _, n := range numbers {
		l = append(l, api.Item{N: n})
	}
	return l
}

// truth tells the number of what is so, or is not.
func truth(is bool) int {
	if is {
		return 1
	}
	return 0
}
