package field_test

import (
	"bytes"
	"encoding/binary"
	"math"
	"math/rand"
	"reflect"
	"slices"
	"strings"
	"testing"

	"chartulary/api"
	"chartulary/field"
)

// n, b and d tell items.
func n(x int) api.Item          { return api.Item{N: x} }
func b(x ...byte) api.Item      { return api.Item{B: x} }
func d(x byte) api.Item         { return api.Item{ID: api.ID{0: x, 31: x + 1}} }
func long(size int) api.Item    { return api.Item{B: bytes.Repeat([]byte{7}, size)} }
func idBytes(x byte) []byte     { i := d(x); return i.ID[:] }
func joined(l ...any) []byte    { return gather(nil, l) }
func fill(x byte, n int) []byte { return bytes.Repeat([]byte{x}, n) }

// gather lays numbers, as bytes, and lists of bytes behind one another.
func gather(out []byte, l []any) []byte {
	for _, x := range l {
		switch y := x.(type) {
		case int:
			out = append(out, byte(y))
		case []byte:
			out = append(out, y...)
		}
	}
	return out
}

// same tells whether items are the same; bytes that are nil are as empty ones.
func same(x, y []api.Item) bool {
	return slices.EqualFunc(x, y, func(p, q api.Item) bool {
		return p.N == q.N && bytes.Equal(p.B, q.B) && p.ID == q.ID
	})
}

// put tells what Put answers where it must answer no error.
func put(t *testing.T, shape string, l []api.Item) []byte {
	t.Helper()
	out, e := field.Put(shape, l)
	if e != api.OK {
		t.Fatalf("put %s %v: %v", shape, l, e)
	}
	return out
}

// shapes are some of all kinds.
var shapes = []string{"", "n", "b", "d", "nn", "nbd", "n(n)", "(n)", "(b)", "(d)", "(nb)n", "(n)(n)", "n(dn)b", "(nbd)(d)b", "nnd", "b(b)b"}

// P3.1: what is a shape.
func TestCheck(t *testing.T) {
	for _, s := range append(shapes, strings.Repeat("n", 40), "("+strings.Repeat("b", 38)+")", strings.Repeat("(d)", 13)+"n") {
		if e := field.Check(s); e != api.OK {
			t.Errorf("%q: %v", s, e)
		}
	}
}

// P3.1: what is none: unknown letters, brackets without another, or without a letter, or within brackets, too many letters.
func TestCheckRefuses(t *testing.T) {
	for _, s := range []string{
		"x", "N", "n ", " n", "nxn", "n\x00", "\xff", "n\xff", "é", "（n）", "[n]", "1",
		"(", ")", "()", "(n", "n)", ")n(", "((n))", "((n)", "(n))", "(n(d))", "(n(d)", "n()", "()n", "(n)()", "((", "))", "(n)(", "(x)", "n(n)b)",
		strings.Repeat("n", 41), "(" + strings.Repeat("n", 39) + ")", strings.Repeat("(d)", 13) + "nn", strings.Repeat("n", 1<<16), strings.Repeat("(", 41),
	} {
		if e := field.Check(s); e != api.ErrArg {
			t.Errorf("check %q: %v", s, e)
		}
		if out, e := field.Put(s, nil); len(out) != 0 || e != api.ErrArg {
			t.Errorf("put %q: %v, %v", s, out, e)
		}
		if l, f := field.Get(s, []byte{1, 2, 3}); len(l) != 0 || f != (api.Fault{Err: api.ErrArg}) {
			t.Errorf("get %q: %v, %v", s, l, f)
		}
	}
}

// P3.1: all texts of up to six letters, against the words told as a pattern.
func TestCheckEachText(t *testing.T) {
	const letters = "nbd()x"
	for size := range 7 {
		count := int(math.Pow(float64(len(letters)), float64(size)))
		for i := range count {
			s := ""
			for range size {
				s += letters[i%len(letters) : i%len(letters)+1]
				i /= len(letters)
			}
			if is := field.Check(s) == api.OK; is != isShape(s) {
				t.Fatalf("%q: %v", s, is)
			}
		}
	}
}

// isShape makes runs of letters one letter, and takes groups away: of a shape letters alone are left.
func isShape(s string) bool {
	s = strings.NewReplacer("b", "n", "d", "n").Replace(s)
	for strings.Contains(s, "nn") {
		s = strings.ReplaceAll(s, "nn", "n")
	}
	return strings.Trim(strings.ReplaceAll(s, "(n)", ""), "n") == ""
}

// P3.2, P3.3: bytes of items, and items of bytes.
func TestPutAndGet(t *testing.T) {
	for _, x := range []struct {
		shape string
		l     []api.Item
		want  []byte
	}{
		{"", nil, nil},
		{"nb", []api.Item{n(300), b(7, 8)}, joined(172, 2, 2, 7, 8)},
		{"n(n)", []api.Item{n(5), n(2), n(1), n(0)}, joined(5, 2, 1, 0)},
		{"n", []api.Item{n(0)}, joined(0)},
		{"n", []api.Item{n(1)}, joined(1)},
		{"n", []api.Item{n(127)}, joined(127)},
		{"n", []api.Item{n(128)}, joined(128, 1)},
		{"n", []api.Item{n(255)}, joined(255, 1)},
		{"n", []api.Item{n(1<<14 - 1)}, joined(255, 127)},
		{"n", []api.Item{n(1 << 14)}, joined(128, 128, 1)},
		{"n", []api.Item{n(1<<56 - 1)}, joined(fill(255, 7), 127)},
		{"n", []api.Item{n(1 << 56)}, joined(fill(128, 8), 1)},
		{"n", []api.Item{n(api.MaxNumber)}, joined(fill(255, 8), 63)},
		{"b", []api.Item{b()}, joined(0)},
		{"b", []api.Item{b(0)}, joined(1, 0)},
		{"b", []api.Item{long(127)}, joined(127, fill(7, 127))},
		{"b", []api.Item{long(128)}, joined(128, 1, fill(7, 128))},
		{"b", []api.Item{long(4000)}, joined(160, 31, fill(7, 4000))},
		{"d", []api.Item{d(9)}, idBytes(9)},
		{"d", []api.Item{{}}, fill(0, 32)},
		{"(n)", []api.Item{n(0)}, joined(0)},
		{"(nb)n", []api.Item{n(2), n(1), b(2), n(3), b(), n(4)}, joined(2, 1, 1, 2, 3, 0, 4)},
		{"(nb)n", []api.Item{n(0), n(4)}, joined(0, 4)},
		{"(n)(d)", []api.Item{n(1), n(200), n(2), d(1), d(2)}, joined(1, 200, 1, 2, idBytes(1), idBytes(2))},
		{"(n)", append([]api.Item{n(4000)}, make([]api.Item, 4000)...), joined(160, 31, fill(0, 4000))},
	} {
		if got := put(t, x.shape, x.l); !bytes.Equal(got, x.want) {
			t.Errorf("put %s: %v, not %v", x.shape, got, x.want)
		}
		if got, f := field.Get(x.shape, x.want); !same(got, x.l) || f != (api.Fault{}) {
			t.Errorf("get %s %v: %v, %v", x.shape, x.want, got, f)
		}
	}
}

// P3.2: the first error, item by item.
func TestPutRefuses(t *testing.T) {
	all := api.Item{N: 1, B: []byte{1}, ID: api.ID{1}}
	for _, x := range []struct {
		shape string
		l     []api.Item
		want  api.Errno
	}{
		// The items come to an end, or there are more.
		{"n", nil, api.ErrArg}, {"b", nil, api.ErrArg}, {"d", nil, api.ErrArg}, {"(n)", nil, api.ErrArg},
		{"nn", []api.Item{n(1)}, api.ErrArg}, {"(n)", []api.Item{n(1)}, api.ErrArg}, {"(nn)", []api.Item{n(2), n(1), n(1), n(1)}, api.ErrArg},
		{"n", []api.Item{n(1), n(2)}, api.ErrArg}, {"", []api.Item{n(0)}, api.ErrArg}, {"(n)", []api.Item{n(0), n(0)}, api.ErrArg},
		{"(n)", []api.Item{n(1), n(1), n(1)}, api.ErrArg}, {"d", []api.Item{d(1), {}}, api.ErrArg},
		// An item has more than its letter names.
		{"n", []api.Item{b(1)}, api.ErrArg}, {"n", []api.Item{d(1)}, api.ErrArg}, {"n", []api.Item{all}, api.ErrArg},
		{"b", []api.Item{n(1)}, api.ErrArg}, {"b", []api.Item{n(-1)}, api.ErrArg}, {"b", []api.Item{d(1)}, api.ErrArg}, {"b", []api.Item{all}, api.ErrArg},
		{"d", []api.Item{n(1)}, api.ErrArg}, {"d", []api.Item{b(1)}, api.ErrArg}, {"d", []api.Item{all}, api.ErrArg},
		{"(n)", []api.Item{{N: 1, B: []byte{1}}, n(1)}, api.ErrArg}, {"(n)", []api.Item{{N: 1, ID: api.ID{31: 1}}, n(1)}, api.ErrArg},
		{"n", []api.Item{{ID: api.ID{31: 1}}}, api.ErrArg}, {"b", []api.Item{{ID: api.ID{16: 1}}}, api.ErrArg},
		// Numbers.
		{"n", []api.Item{n(-1)}, api.ErrRange}, {"n", []api.Item{n(math.MinInt)}, api.ErrRange},
		{"n", []api.Item{n(api.MaxNumber + 1)}, api.ErrRange}, {"n", []api.Item{n(math.MaxInt)}, api.ErrRange},
		{"(n)", []api.Item{n(1), n(-1)}, api.ErrRange}, {"(n)", []api.Item{n(2), n(1), n(api.MaxNumber + 1)}, api.ErrRange},
		// How often.
		{"(n)", []api.Item{n(-1)}, api.ErrRange}, {"(n)", []api.Item{n(math.MinInt)}, api.ErrRange},
		{"(n)", []api.Item{n(4001)}, api.ErrLong}, {"(n)", append([]api.Item{n(4001)}, make([]api.Item, 4001)...), api.ErrLong},
		{"(n)", []api.Item{n(api.MaxNumber)}, api.ErrLong}, {"(n)", []api.Item{n(4000)}, api.ErrArg},
		// Bytes.
		{"b", []api.Item{long(4001)}, api.ErrLong}, {"(b)", []api.Item{n(1), long(4001)}, api.ErrLong}, {"b", []api.Item{long(70000)}, api.ErrLong},
		// Which comes first.
		{"nb", []api.Item{n(-1), long(4001)}, api.ErrRange}, {"bn", []api.Item{long(4001), n(-1)}, api.ErrLong},
		{"nn", []api.Item{n(-1)}, api.ErrRange}, {"nn", []api.Item{n(-1), b(1)}, api.ErrRange}, {"nn", []api.Item{b(1), n(-1)}, api.ErrArg},
		{"n", []api.Item{{N: -1, B: []byte{1}}}, api.ErrArg}, {"b", []api.Item{{N: 1, B: fill(7, 4001)}}, api.ErrArg}, {"(n)", []api.Item{{N: 4001, B: []byte{1}}}, api.ErrArg},
		{"n", []api.Item{n(-1), n(1)}, api.ErrRange}, {"b", []api.Item{long(4001), n(1)}, api.ErrLong}, {"(n)n", []api.Item{n(4001), n(-1)}, api.ErrLong},
		{"(nb)", []api.Item{n(2), n(1), long(4001), n(-1)}, api.ErrLong},
		{"x", []api.Item{n(-1)}, api.ErrArg}, {"(n", []api.Item{n(-1)}, api.ErrArg},
	} {
		if out, e := field.Put(x.shape, x.l); len(out) != 0 || e != x.want {
			t.Errorf("put %s: %v, %v, not %v", x.shape, out, e, x.want)
		}
	}
}

// P3.2: how often a group is there is a number: beyond all numbers it is ErrRange, ahead of ErrLong, whatever the group's letters, and wherever it stands.
func TestPutRefusesGroupsBeyondNumbers(t *testing.T) {
	for _, shape := range []string{"(n)", "(b)", "(d)", "(nbd)", "(nb)n", "(n)(n)", "n(d)", "b(n)", "d(b)d", "(n)(b)"} {
		for _, x := range []struct {
			times int
			want  api.Errno
		}{
			{math.MinInt, api.ErrRange}, {-api.MaxNumber, api.ErrRange}, {-1, api.ErrRange},
			{4001, api.ErrLong}, {math.MaxInt32 + 1, api.ErrLong}, {api.MaxNumber - 1, api.ErrLong}, {api.MaxNumber, api.ErrLong},
			{api.MaxNumber + 1, api.ErrRange}, {api.MaxNumber + 2, api.ErrRange}, {math.MaxInt - 1, api.ErrRange}, {math.MaxInt, api.ErrRange},
		} {
			l := []api.Item{n(x.times)}
			if shape[0] != '(' {
				l = []api.Item{{}, n(x.times)}
			}
			if shape == "(n)(b)" {
				l = []api.Item{n(1), n(1), n(x.times)}
			}
			for range 2 {
				if out, e := field.Put(shape, l); len(out) != 0 || e != x.want {
					t.Errorf("put %s, %d times: %v, %v, not %v", shape, x.times, out, e, x.want)
				}
				// What comes behind it, of whatever kind, changes nothing.
				l = append(l, n(-1), long(4001), d(1))
			}
		}
	}
	beyond := n(api.MaxNumber + 1)
	for _, x := range []struct {
		shape string
		l     []api.Item
		want  api.Errno
	}{
		// An item that has more than its letter names is that first.
		{"(n)", []api.Item{{N: beyond.N, B: []byte{1}}}, api.ErrArg}, {"(n)", []api.Item{{N: beyond.N, ID: api.ID{31: 1}}}, api.ErrArg}, {"(n)", []api.Item{{N: 4001, ID: api.ID{1}}}, api.ErrArg},
		// Bytes and ids have no number to be beyond.
		{"b", []api.Item{beyond}, api.ErrArg}, {"d", []api.Item{beyond}, api.ErrArg}, {"(b)", []api.Item{n(1), beyond}, api.ErrArg}, {"(d)", []api.Item{n(1), beyond}, api.ErrArg},
		// Of two items the first is told.
		{"(n)(n)", []api.Item{beyond, n(4001)}, api.ErrRange}, {"(n)(n)", []api.Item{n(4001), beyond}, api.ErrLong}, {"(n)(n)", []api.Item{n(0), beyond}, api.ErrRange}, {"(n)(n)", []api.Item{n(0), n(4001)}, api.ErrLong},
		{"b(n)", []api.Item{long(4001), beyond}, api.ErrLong}, {"(n)b", []api.Item{beyond, long(4001)}, api.ErrRange}, {"(n)n", []api.Item{n(1), n(-1), beyond}, api.ErrRange},
		{"n(n)", []api.Item{b(1), beyond}, api.ErrArg}, {"x(n)", []api.Item{beyond}, api.ErrArg},
	} {
		if out, e := field.Put(x.shape, x.l); len(out) != 0 || e != x.want {
			t.Errorf("put %s: %v, %v, not %v", x.shape, out, e, x.want)
		}
	}
}

// P3.3: the first fault, field by field, and its place.
func TestGetRefuses(t *testing.T) {
	for _, x := range []struct {
		shape string
		b     []byte
		e     api.Errno
		at    int
	}{
		// Something is not there.
		{"n", nil, api.ErrBytes, 0}, {"n", joined(128), api.ErrBytes, 1}, {"n", fill(255, 8), api.ErrBytes, 8}, {"n", fill(128, 9), api.ErrBytes, 9},
		{"nn", joined(1), api.ErrBytes, 1}, {"nn", joined(1, 128, 128), api.ErrBytes, 3},
		{"b", nil, api.ErrBytes, 0}, {"b", joined(2, 7), api.ErrBytes, 2}, {"b", joined(1), api.ErrBytes, 1}, {"b", joined(160, 31, fill(1, 3999)), api.ErrBytes, 4001},
		{"nb", joined(1, 3, 1, 1), api.ErrBytes, 4}, {"b", joined(128), api.ErrBytes, 1},
		{"d", nil, api.ErrBytes, 0}, {"d", fill(1, 31), api.ErrBytes, 31}, {"nd", joined(1, fill(1, 31)), api.ErrBytes, 32},
		{"(n)", nil, api.ErrBytes, 0}, {"(n)", joined(2, 1), api.ErrBytes, 2}, {"(nd)", joined(1, 1, fill(0, 5)), api.ErrBytes, 7}, {"(n)", joined(160, 31), api.ErrBytes, 2},
		{"(n)n", joined(0), api.ErrBytes, 1}, {"(n)(n)", joined(0), api.ErrBytes, 1},
		// Numbers in no form.
		{"n", joined(128, 0), api.ErrForm, 0}, {"n", joined(129, 128, 0), api.ErrForm, 0}, {"n", joined(fill(255, 8), 0), api.ErrForm, 0},
		{"n", joined(fill(128, 8), 64), api.ErrForm, 0}, {"n", joined(fill(255, 8), 127), api.ErrForm, 0},
		{"n", joined(fill(128, 9), 1), api.ErrForm, 0}, {"n", joined(fill(128, 9), 0), api.ErrForm, 0}, {"n", fill(128, 10), api.ErrForm, 0}, {"n", joined(fill(255, 100), 1), api.ErrForm, 0},
		{"nn", joined(5, 128, 0), api.ErrForm, 1}, {"b", joined(128, 0), api.ErrForm, 0}, {"b", joined(129, 0, 1), api.ErrForm, 0},
		{"nb", joined(172, 2, 130, 0, 1, 1), api.ErrForm, 2}, {"(n)", joined(129, 0, 1), api.ErrForm, 0}, {"n(n)", joined(5, 2, 1, 128, 0), api.ErrForm, 3},
		{"b", joined(fill(128, 8), 64), api.ErrForm, 0}, {"(n)", joined(fill(128, 9), 1), api.ErrForm, 0},
		{"bn", joined(2, 128, 0, 128, 0), api.ErrForm, 3}, {"dn", joined(fill(128, 32), 128, 0), api.ErrForm, 32},
		// Too many.
		{"b", joined(161, 31, fill(1, 4001)), api.ErrLong, 0}, {"b", joined(161, 31), api.ErrLong, 0}, {"b", joined(fill(255, 8), 63), api.ErrLong, 0},
		{"(n)", joined(161, 31, fill(1, 4001)), api.ErrLong, 0}, {"(n)", joined(161, 31), api.ErrLong, 0}, {"(b)", joined(fill(255, 8), 63), api.ErrLong, 0},
		{"nb", joined(1, 255, 31), api.ErrLong, 1}, {"(n)(n)", joined(1, 9, 161, 31), api.ErrLong, 2}, {"(b)", joined(2, 1, 7, 161, 31), api.ErrLong, 3},
		// Bytes are left.
		{"n", joined(5, 6), api.ErrBytes, 1}, {"", joined(0), api.ErrBytes, 0}, {"b", joined(1, 7, 7), api.ErrBytes, 2}, {"d", fill(0, 33), api.ErrBytes, 32},
		{"(n)", joined(0, 0), api.ErrBytes, 1}, {"(n)", joined(1, 1, 1), api.ErrBytes, 2}, {"n", joined(172, 2, 128, 0), api.ErrBytes, 2},
		// Which comes first.
		{"nn", joined(128, 0), api.ErrForm, 0}, {"nb", joined(128, 0, 161, 31), api.ErrForm, 0}, {"bn", joined(161, 31, 128, 0), api.ErrLong, 0},
		{"x", joined(128, 0), api.ErrArg, 0},
	} {
		if l, f := field.Get(x.shape, x.b); len(l) != 0 || f != (api.Fault{Err: x.e, At: x.at}) {
			t.Errorf("get %s %v: %v, %v, not %v at %d", x.shape, x.b, l, f, x.e, x.at)
		}
	}
}

// oracle reads bytes by the document's words, and another's numbers.
type oracle struct {
	b  []byte
	at int
	l  []api.Item
	f  api.Fault
}

// number tells a number, at most so much.
func (o *oracle) number(top uint64) int {
	rest := o.b[o.at:]
	last := slices.IndexFunc(rest, func(x byte) bool { return x < 128 })
	v, size := binary.Uvarint(rest)
	switch {
	case last < 0 && len(rest) < 10:
		o.f = api.Fault{Err: api.ErrBytes, At: len(o.b)}
	case last < 0, last > 8, v > api.MaxNumber, !bytes.Equal(binary.AppendUvarint(nil, v), rest[:last+1]):
		o.f = api.Fault{Err: api.ErrForm, At: o.at}
	case v > top:
		o.f = api.Fault{Err: api.ErrLong, At: o.at}
	default:
		o.at += size
		return int(v)
	}
	return 0
}

// bytes tells the next bytes, so many.
func (o *oracle) bytes(size int) []byte {
	if o.f.Err != api.OK {
		return nil
	}
	if o.at+size > len(o.b) {
		o.f = api.Fault{Err: api.ErrBytes, At: len(o.b)}
		return nil
	}
	o.at += size
	return o.b[o.at-size : o.at]
}

// read reads by what is left of a shape.
func (o *oracle) read(shape string) {
	if shape == "" || o.f.Err != api.OK {
		return
	}
	var x api.Item
	rest := shape[1:]
	switch shape[0] {
	case 'n':
		x.N = o.number(api.MaxNumber)
	case 'b':
		x.B = o.bytes(o.number(4000))
	case 'd':
		copy(x.ID[:], o.bytes(32))
	case '(':
		x.N = o.number(4000)
		group, behind, _ := strings.Cut(rest, ")")
		rest = strings.Repeat(group, x.N) + behind
	}
	o.l = append(o.l, x)
	o.read(rest)
}

// against holds Get against the oracle, and Put against Get.
func against(t *testing.T, shape string, b []byte) {
	t.Helper()
	o := oracle{b: b}
	o.read(shape)
	if o.f.Err == api.OK && o.at < len(b) {
		o.f = api.Fault{Err: api.ErrBytes, At: o.at}
	}
	if o.f.Err != api.OK {
		o.l = nil
	}
	l, f := field.Get(shape, b)
	if f != o.f || !same(l, o.l) {
		t.Fatalf("get %s %v: %v, %v, not %v, %v", shape, b, l, f, o.l, o.f)
	}
	if f.Err == api.OK && !bytes.Equal(put(t, shape, l), b) {
		t.Fatalf("get %s %v is put as %v", shape, b, put(t, shape, l))
	}
}

// P3.3, P3.4: all bytes of some few, up to five of them.
func TestGetAllShort(t *testing.T) {
	few := []byte{0, 1, 2, 3, 127, 128, 129, 255}
	for size := range 6 {
		for i := range 1 << (3 * size) {
			text := make([]byte, size)
			for at := range text {
				text[at] = few[i>>(3*at)&7]
			}
			for _, s := range shapes {
				against(t, s, text)
			}
		}
	}
}

// random tells items of a shape.
func random(r *rand.Rand, shape string) []api.Item {
	var l []api.Item
	for i := 0; i < len(shape); i++ {
		switch shape[i] {
		case 'n':
			l = append(l, n(r.Intn(api.MaxNumber+1)>>r.Intn(63)))
		case 'b':
			text := make([]byte, r.Intn(200)>>r.Intn(8))
			r.Read(text)
			l = append(l, api.Item{B: text})
		case 'd':
			x := api.Item{}
			r.Read(x.ID[:])
			l = append(l, x)
		case '(':
			group, behind, _ := strings.Cut(shape[i+1:], ")")
			times := r.Intn(150) >> r.Intn(8)
			l = append(l, n(times))
			for range times {
				l = append(l, random(r, group)...)
			}
			shape, i = behind, -1
		}
	}
	return l
}

// P3.4: what is put is got, whatever it is; and what some byte of it is turned to, or where it is cut, is refused as it should be, or put as it was.
func TestGetWhatIsPut(t *testing.T) {
	r := rand.New(rand.NewSource(3))
	for round := range 4000 {
		shape := shapes[round%len(shapes)]
		l := random(r, shape)
		text := put(t, shape, l)
		if got, f := field.Get(shape, text); f != (api.Fault{}) || !same(got, l) {
			t.Fatalf("get %s %v: %v, %v, not %v", shape, text, got, f, l)
		}
		for range 5 {
			if len(text) == 0 {
				break
			}
			turned := slices.Clone(text)
			turned[r.Intn(min(len(text), 1+r.Intn(40)))] = byte(r.Intn(256))
			against(t, shape, turned)
			against(t, shape, text[:r.Intn(len(text))])
			against(t, shape, append(slices.Clone(text), byte(r.Intn(256))))
		}
	}
}

// P3.3: bytes that make long numbers.
func TestGetLongNumbers(t *testing.T) {
	r := rand.New(rand.NewSource(4))
	for range 20000 {
		text := joined(fill(128, r.Intn(14)), r.Intn(256), r.Intn(256), fill(255, r.Intn(4)), r.Intn(256))
		for i := range text {
			if r.Intn(3) == 0 {
				text[i] |= byte(r.Intn(128))
			}
		}
		against(t, []string{"n", "b", "(n)", "nn", "(nb)"}[r.Intn(5)], text[:r.Intn(len(text)+1)])
	}
}

// few tells all lists of items of a shape, of some few numbers, bytes and ids.
func few(shape string) [][]api.Item {
	if shape == "" {
		return [][]api.Item{nil}
	}
	var first []api.Item
	rest := shape[1:]
	switch shape[0] {
	case 'n':
		first = []api.Item{n(0), n(1), n(2), n(127), n(128), n(129), n(256), n(16384)}
	case 'b':
		first = []api.Item{b(), b(0), b(1), b(0, 0), b(1, 0), b(128, 1), long(128)}
	case 'd':
		first = []api.Item{{}, d(1), {ID: api.ID{31: 1}}}
	case '(':
		group, behind, _ := strings.Cut(rest, ")")
		var out [][]api.Item
		for times := range 3 {
			for _, l := range few(strings.Repeat(group, times) + behind) {
				out = append(out, append([]api.Item{n(times)}, l...))
			}
		}
		return out
	}
	var out [][]api.Item
	for _, x := range first {
		for _, l := range few(rest) {
			out = append(out, append([]api.Item{x}, l...))
		}
	}
	return out
}

// P3.4: of unlike items the bytes are unlike, and none begin with the other's.
func TestNoneBeginsWithAnother(t *testing.T) {
	for _, shape := range []string{"n", "b", "d", "nn", "nb", "bn", "(n)", "(b)", "(d)", "n(n)", "(n)(n)", "(nb)", "(n)n", "bb"} {
		var all [][]byte
		for _, l := range few(shape) {
			text := put(t, shape, l)
			all = append(all, text)
			if got, f := field.Get(shape, text); f != (api.Fault{}) || !same(got, l) {
				t.Fatalf("get %s %v: %v, %v", shape, text, got, f)
			}
		}
		// Sorted, whoever begins another's bytes begins those of the next one.
		slices.SortFunc(all, bytes.Compare)
		for i := 1; i < len(all); i++ {
			if bytes.HasPrefix(all[i], all[i-1]) {
				t.Errorf("%s: %v begins %v", shape, all[i-1], all[i])
			}
		}
	}
}

// Rule 2: an item has what its letter names alone; a fault has no items.
func TestGetGivesNoMore(t *testing.T) {
	l, f := field.Get("nbd(n)", joined(3, 1, 9, idBytes(4), 1, 7))
	want := []api.Item{{N: 3}, {B: []byte{9}}, d(4), {N: 1}, {N: 7}}
	if f != (api.Fault{}) || !reflect.DeepEqual(l, want) {
		t.Errorf("%v, %v", l, f)
	}
	if l, f = field.Get("n", nil); len(l) != 0 || f.Err != api.ErrBytes {
		t.Errorf("%v, %v", l, f)
	}
}

// Rule 4: what was handed in stays, its spare room too, which is not looked at; what is answered is new.
func TestOwnMemory(t *testing.T) {
	room := joined(2, 2, 7, 8, 0, 3, 1, 1, 1, 1)
	was := slices.Clone(room)
	first, f := field.Get("(b)n", room[:6])
	if f != (api.Fault{}) || !same(first, []api.Item{n(2), b(7, 8), b(), n(3)}) {
		t.Fatalf("%v, %v", first, f)
	}
	kept := slices.Clone(first[1].B)
	for i := range first {
		if x := first[i].B; cap(x) > 0 {
			x = x[:cap(x)]
			clear(x)
		}
	}
	if !slices.Equal(room, was) {
		t.Error("the bytes changed with the items")
	}
	first[1].B = kept
	clear(room)
	if !slices.Equal(first[1].B, kept) {
		t.Error("the items changed with the bytes")
	}

	items := []api.Item{n(1), b(5, 6), n(9), n(9)}
	text := items[1].B[:2:2]
	items[1].B = append(text, 4, 4)[:2]
	out := put(t, "nb", items[:2])
	clear(out[:cap(out)])
	if !reflect.DeepEqual(items, []api.Item{n(1), b(5, 6), n(9), n(9)}) || !slices.Equal(items[1].B[:4], []byte{5, 6, 4, 4}) {
		t.Error("the items changed with their bytes")
	}
	again := put(t, "nb", items[:2])
	items[1].B[0] = 77
	if !slices.Equal(again, []byte{1, 2, 5, 6}) {
		t.Error("the bytes changed with their items")
	}
}

// Rule 4: no two lists of one answer share any room.
func TestNoSharedRoom(t *testing.T) {
	l, f := field.Get("bbb", joined(1, 1, 0, 2, 2, 2))
	if f != (api.Fault{}) {
		t.Fatal(f)
	}
	_ = append(l[0].B, 99, 99, 99)
	_ = append(l[1].B, 99, 99, 99)
	if !same(l, []api.Item{b(1), b(), b(2, 2)}) {
		t.Errorf("%v", l)
	}
}

// P3.2: great lists: as many as there may be of groups, and of letters in one.
func TestGreatLists(t *testing.T) {
	shape := "(" + strings.Repeat("n", 38) + ")"
	l := make([]api.Item, 1+4000*38)
	l[0].N = 4000
	text := put(t, shape, l)
	if len(text) != 2+4000*38 {
		t.Errorf("%d bytes", len(text))
	}
	if got, f := field.Get(shape, text); f != (api.Fault{}) || !same(got, l) {
		t.Errorf("%d items, %v", len(got), f)
	}
	if got, f := field.Get(shape, text[:len(text)-1]); len(got) != 0 || f != (api.Fault{Err: api.ErrBytes, At: len(text) - 1}) {
		t.Errorf("%d items, %v", len(got), f)
	}
	if out, e := field.Put(shape, l[:len(l)-1]); len(out) != 0 || e != api.ErrArg {
		t.Errorf("%d bytes, %v", len(out), e)
	}
}
