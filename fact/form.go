package fact

import (
	"bytes"

	"chartulary/api"
	"chartulary/digest"
	"chartulary/field"
)

// kindShape is the shape of a kind's number, which stands ahead of all else.
const kindShape = "n"

// What a fact has, by letters. A chunk is data whose digest is the fact's id, so that the id needs no bytes.
const (
	set    = 's'
	home   = 'h'
	number = 'n'
	node   = 'o'
	id     = 'i'
	data   = 'd'
	chunk  = 'c'
)

// form is how a kind's facts are written: the shape of its bytes behind the kind, and a letter an item of what that is.
type form struct{ shape, has string }

// table is the form of each kind.
type table map[int]form

// forms makes the table.
func forms() table {
	return table{
		api.FactBorn:    {"", ""},
		api.FactBoot:    {"n", "s"},
		api.FactBlob:    {"b", "c"},
		api.FactKeep:    {"nd", "si"},
		api.FactHint:    {"nnd", "hsi"},
		api.FactDone:    {"nnd", "hsi"},
		api.FactPromise: {"nnn", "sno"},
		api.FactAccept:  {"nnnb", "snod"},
		api.FactDecide:  {"nb", "sd"},
		api.FactDrop:    {"n", "s"},
	}
}

// check tells ErrArg, if a fact may not be.
func (t table) check(f api.Fact) api.Errno {
	x, is := t[f.Kind]
	if !is {
		return api.ErrArg
	}
	l := x.items(f)
	// What comes back of the items alone is a fact without anything that its kind does not have.
	if !x.bounded(l) || !alike(x.fact(f.Kind, l), f) {
		return api.ErrArg
	}
	return api.OK
}

// kindOf reads the number that bytes begin with, whatever is behind it.
func kindOf(b []byte) (int, api.Fault) {
	l, fault := field.Get(kindShape, b)
	if fault.Err == api.ErrBytes {
		// It is either not all there, and is not now, or ends where the rest is left over.
		l, fault = field.Get(kindShape, b[:fault.At])
	}
	if fault.Err != api.OK {
		return 0, fault
	}
	return l[0].N, api.Fault{}
}

// items tells what a fact has as the items of its shape.
func (x form) items(f api.Fact) []api.Item {
	l := make([]api.Item, 0, len(x.has))
	for _, letter := range x.has {
		l = append(l, itemOf(f, letter))
	}
	return l
}

// fact tells the fact of a kind that has these items, and nothing else.
func (x form) fact(kind int, l []api.Item) api.Fact {
	f := api.Fact{Kind: kind}
	for i, letter := range x.has {
		lay(&f, letter, l[i])
	}
	return f
}

// bounded tells whether all items are within the bounds of their letters.
func (x form) bounded(l []api.Item) bool {
	for i, letter := range x.has {
		if !within(letter, l[i]) {
			return false
		}
	}
	return true
}

// itemOf tells what a fact has by a letter.
func itemOf(f api.Fact, letter rune) api.Item {
	switch letter {
	case set:
		return api.Item{N: f.Set}
	case home:
		return api.Item{N: f.Home}
	case number:
		return api.Item{N: f.Ballot.N}
	case node:
		return api.Item{N: f.Ballot.Node}
	case id:
		return api.Item{ID: f.ID}
	default:
		return api.Item{B: f.Data}
	}
}

// lay gives a fact what it has by a letter.
func lay(f *api.Fact, letter rune, x api.Item) {
	switch letter {
	case set:
		f.Set = x.N
	case home:
		f.Home = x.N
	case number:
		f.Ballot.N = x.N
	case node:
		f.Ballot.Node = x.N
	case id:
		f.ID = x.ID
	case chunk:
		f.ID, f.Data = digest.Sum(x.B), x.B
	default:
		f.Data = x.B
	}
}

// within tells whether an item is within its letter's bounds.
func within(letter rune, x api.Item) bool {
	switch letter {
	case set, number:
		return 1 <= x.N && x.N <= api.MaxSet
	case home, node:
		return 1 <= x.N && x.N <= api.MaxNodes
	case chunk:
		return len(x.B) <= api.MaxChunk
	case data:
		return len(x.B) <= api.MaxString
	default:
		return true
	}
}

// alike tells whether two facts are the same.
func alike(a, b api.Fact) bool {
	return a.Kind == b.Kind && a.Set == b.Set && a.Home == b.Home && a.Ballot == b.Ballot && a.ID == b.ID && bytes.Equal(a.Data, b.Data)
}
