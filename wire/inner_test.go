package wire

import (
	"testing"

	"chartulary/api"
	"chartulary/field"
)

// Each kind has a form, whose shape is one, and fits its letters; its number is one byte, as Get leans on.
func TestForms(t *testing.T) {
	table := forms()
	if len(table) != api.Notes-1 {
		t.Errorf("%d forms", len(table))
	}
	for kind := 1; kind < api.Notes; kind++ {
		f, is := table[kind]
		if e := field.Check(f.shape()); !is || e != api.OK || f.has == "" {
			t.Errorf("kind %d: %+v, %v", kind, f, e)
		}
		if b, e := field.Put(headShape, withNumbers(nil, kind, 1, 2)); e != api.OK || len(b) != 3 || int(b[0]) != kind {
			t.Errorf("kind %d: %v, %v", kind, b, e)
		}
		// A note of noughts has as many items as its shape says, and they are read to their end.
		l := f.items(api.Note{Kind: kind})
		b := builder{reader: reader{left: l}}
		b.head()
		for _, letter := range f.has {
			b.lay(letter)
		}
		if _, e := field.Put(f.shape(), l); e != api.OK || len(b.left) != 0 {
			t.Errorf("kind %d: %d items are left, %v", kind, len(b.left), e)
		}
	}
}

// A reader knows that something was wrong, whatever comes behind it.
func TestReader(t *testing.T) {
	r := reader{left: withNumbers(nil, 1, 5, 0, 6, 3)}
	for i, want := range []struct {
		n     int
		wrong bool
	}{{1, false}, {5, false}, {0, true}, {6, true}, {3, true}} {
		if n := r.number(1, 5); n != want.n || r.wrong != want.wrong {
			t.Errorf("number %d: %d, %v", i, n, r.wrong)
		}
	}
	for _, x := range []struct {
		n, node int
		wrong   bool
	}{{0, 0, false}, {1, 1, false}, {api.MaxSet, 64, false}, {0, 1, true}, {1, 0, true}, {1, 65, true}, {api.MaxSet + 1, 1, true}, {-1, 1, true}, {1, -1, true}} {
		r := reader{left: withNumbers(nil, x.n, x.node)}
		if b := r.pair(); b != (api.Ballot{N: x.n, Node: x.node}) || r.wrong != x.wrong {
			t.Errorf("pair %v: %v", b, r.wrong)
		}
	}
}
