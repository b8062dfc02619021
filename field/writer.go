package field

import "chartulary/api"

// bits is how many bits of a number a byte has; more is what a byte has on top of them, if another one follows.
const (
	bits = 7
	more = 1 << bits
)

// writer writes items, one behind the other.
type writer struct {
	left []api.Item
	out  []byte
}

// put writes the next item, and tells its number: of a group, how often it is there.
func (w *writer) put(letter rune) (int, api.Errno) {
	if len(w.left) == 0 || !named(letter, w.left[0]) {
		return 0, api.ErrArg
	}
	x := w.left[0]
	if e := bounded(letter, x); e != api.OK {
		return 0, e
	}
	w.left = w.left[1:]
	switch letter {
	case bytes:
		w.number(len(x.B))
		w.out = append(w.out, x.B...)
	case id:
		w.out = append(w.out, x.ID[:]...)
	default:
		w.number(x.N)
	}
	return x.N, api.OK
}

// number writes a number.
func (w *writer) number(n int) {
	for n >= more {
		w.out = append(w.out, byte(n%more+more))
		n >>= bits
	}
	w.out = append(w.out, byte(n))
}

// bounded tells the error of an item that is beyond its letter's bounds.
func bounded(letter rune, x api.Item) api.Errno {
	switch {
	// How often a group is there is a number as others are, so these bounds come ahead of its own.
	case x.N < 0, x.N > api.MaxNumber:
		return api.ErrRange
	case len(x.B) > api.MaxString, letter == opening && x.N > api.MaxCount:
		return api.ErrLong
	}
	return api.OK
}
