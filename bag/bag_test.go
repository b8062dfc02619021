package bag_test

import (
	"math"
	"math/rand"
	"slices"
	"testing"

	"chartulary/api"
	"chartulary/bag"
)

// plain is a bag as the document's words say: a list of things, and how many it may have.
type plain struct {
	list []int
	most int
}

func (p *plain) put(x int) api.Errno {
	if len(p.list) >= p.most {
		return api.ErrFull
	}
	p.list = append(slices.Clone(p.list), x)
	return api.OK
}

func (p *plain) at(i int) (int, api.Errno) {
	for k, x := range p.list {
		if k == i {
			return x, api.OK
		}
	}
	return 0, api.ErrRange
}

func (p *plain) take(i int) (int, api.Errno) {
	x, e := p.at(i)
	if e == api.OK {
		p.list = append(slices.Clone(p.list[:i]), p.list[i+1:]...)
	}
	return x, e
}

// made tells a bag of a room into which these were put, where there must be one.
func made(t *testing.T, room int, l ...int) *bag.Bag[int] {
	t.Helper()
	b, e := bag.New[int](room)
	if b == nil || e != api.OK {
		t.Fatalf("new of room %d: %v", room, e)
	}
	puts(t, b, api.OK, l...)
	return b
}

// puts asks that each put is answered so.
func puts(t *testing.T, b *bag.Bag[int], want api.Errno, l ...int) {
	t.Helper()
	for _, x := range l {
		if e := b.Put(x); e != want {
			t.Fatalf("put %d: %v, not %v", x, e, want)
		}
	}
}

// takes asks what a take answers.
func takes(t *testing.T, b *bag.Bag[int], i, want int, wantErr api.Errno) {
	t.Helper()
	if x, e := b.Take(i); x != want || e != wantErr {
		t.Fatalf("take %d: %d, %v, not %d, %v", i, x, e, want, wantErr)
	}
}

// holds asks that b has just these, in this order, and room for so many more, by all that tells of it.
func holds(t *testing.T, what string, b *bag.Bag[int], room int, l ...int) {
	t.Helper()
	if got := b.All(); !slices.Equal(got, l) {
		t.Fatalf("%s: all %v, not %v", what, got, l)
	}
	if b.Len() != len(l) || b.Room() != room {
		t.Fatalf("%s: %d things and room %d, not %d and %d", what, b.Len(), b.Room(), len(l), room)
	}
	for i, want := range l {
		if x, e := b.At(i); x != want || e != api.OK {
			t.Fatalf("%s: at %d: %d, %v, not %d", what, i, x, e, want)
		}
	}
	for _, i := range []int{len(l), len(l) + 1, -1, -len(l), -len(l) - 1, math.MinInt, math.MaxInt} {
		if x, e := b.At(i); x != 0 || e != api.ErrRange {
			t.Fatalf("%s: at %d of %d things: %d, %v", what, i, len(l), x, e)
		}
	}
}

// rising tells n numbers, from from on.
func rising(from, n int) []int {
	out := make([]int, n)
	for i := range out {
		out[i] = from + i
	}
	return out
}

// The document's examples.
func TestExamples(t *testing.T) {
	b := made(t, 2, 7, 8)
	puts(t, b, api.ErrFull, 9)
	takes(t, b, 0, 7, api.OK)
	puts(t, b, api.OK, 9)
	holds(t, "7 is taken, 9 is put", b, 0, 8, 9)
	if x, e := b.At(1); x != 9 || e != api.OK {
		t.Errorf("at 1: %d, %v", x, e)
	}
	if x, e := b.At(2); x != 0 || e != api.ErrRange {
		t.Errorf("at 2: %d, %v", x, e)
	}
	takes(t, b, -1, 0, api.ErrRange)
	if b, e := bag.New[int](2001); b != nil || e != api.ErrArg {
		t.Errorf("new of room 2,001: %v, %v", b, e)
	}
}

// P6.1: rooms from 0 to 2,000 are bags with nothing in them.
func TestNewTakes(t *testing.T) {
	for room := range 2001 {
		b := made(t, room)
		holds(t, "new", b, room)
		takes(t, b, 0, 0, api.ErrRange)
		holds(t, "nothing to take", b, room)
	}
}

// P6.1: no other rooms.
func TestNewRefuses(t *testing.T) {
	for _, room := range []int{-1, -2, -2000, math.MinInt32, math.MinInt + 1, math.MinInt, 2001, 2002, 4000, 1 << 16, math.MaxInt32, 1 << 32, 1<<32 + 5, 1<<63 - 2, math.MaxInt} {
		if b, e := bag.New[int](room); b != nil || e != api.ErrArg {
			t.Errorf("new of room %d: %v, %v", room, b, e)
		}
		if b, e := bag.New[string](room); b != nil || e != api.ErrArg {
			t.Errorf("new of texts, of room %d: %v, %v", room, b, e)
		}
	}
}

// P6.1: each put makes one more thing and one room less; at the end nothing more is put, and nothing is changed.
func TestPutToTheEnd(t *testing.T) {
	for _, room := range []int{0, 1, 2, 3, 4, 5, 7, 8, 9, 31, 32, 33, 1023, 1024, 1025, 1999, 2000} {
		b, l := made(t, room), rising(10, room)
		for i, x := range l {
			puts(t, b, api.OK, x)
			if b.Len() != i+1 || b.Room() != room-i-1 {
				t.Fatalf("room %d, %d put: %d things and room %d", room, i+1, b.Len(), b.Room())
			}
		}
		holds(t, "full", b, 0, l...)
		puts(t, b, api.ErrFull, 1, 10, 0)
		holds(t, "more was put", b, 0, l...)
		for range 2 * room {
			takes(t, b, 0, l[0], api.OK)
			puts(t, b, api.OK, l[0])
			l = append(l[1:], l[0])
			puts(t, b, api.ErrFull, 3)
		}
		holds(t, "gone round", b, 0, l...)
	}
}

// P6.2: out of bags that begin anywhere, and have any number of things, each one can be taken, and the others stay in order.
func TestTakeEach(t *testing.T) {
	for room := 1; room <= 9; room++ {
		for gone := range 2*room + 1 {
			for n := range room + 1 {
				for i := range n {
					b, l := made(t, room), rising(100, n)
					for range gone {
						puts(t, b, api.OK, 5)
						takes(t, b, 0, 5, api.OK)
					}
					puts(t, b, api.OK, l...)
					takes(t, b, i, 100+i, api.OK)
					l = slices.Delete(l, i, i+1)
					holds(t, "one taken", b, room-n+1, l...)
					more := rising(200, room-n+1)
					puts(t, b, api.OK, more...)
					holds(t, "filled again", b, 0, append(l, more...)...)
				}
			}
		}
	}
}

// P6.2: a number of which there is no thing: nothing is told, nothing taken.
func TestNoSuchThing(t *testing.T) {
	for _, n := range []int{0, 1, 2, 3, 8, 1999, 2000} {
		for _, room := range []int{n, min(n+1, 2000), 2000} {
			l := rising(1, n)
			b := made(t, room, l...)
			for _, i := range []int{-1, -2, -n - 1, n, n + 1, 2 * n, room + n, 2001, math.MinInt32, math.MinInt + 1, math.MinInt, math.MaxInt32, 1 << 32, math.MaxInt} {
				if i >= 0 && i < n {
					continue
				}
				takes(t, b, i, 0, api.ErrRange)
				if x, e := b.At(i); x != 0 || e != api.ErrRange {
					t.Errorf("at %d of %d things: %d, %v", i, n, x, e)
				}
			}
			holds(t, "nothing was taken", b, room-n, l...)
		}
	}
}

// P6.1, P6.2: to be told of a bag changes nothing.
func TestTellingChangesNothing(t *testing.T) {
	b := made(t, 4, 1, 2, 3)
	takes(t, b, 0, 1, api.OK)
	puts(t, b, api.OK, 4, 5)
	for range 5 {
		holds(t, "told", b, 0, 2, 3, 4, 5)
		b.Copy()
	}
}

// P6.3: who takes the first again and again takes them in the order in which they came, whatever is put meanwhile.
func TestFirstComeFirstTaken(t *testing.T) {
	for _, room := range []int{1, 2, 3, 10, 100, 2000} {
		for ahead := 1; ahead <= room; ahead += 1 + room/7 {
			b := made(t, room)
			for i := range 3*room + 7 {
				puts(t, b, api.OK, i)
				if i >= ahead-1 {
					takes(t, b, 0, i-ahead+1, api.OK)
				}
			}
			if b.Len() != ahead-1 || b.Room() != room-ahead+1 {
				t.Fatalf("room %d: %d things and room %d", room, b.Len(), b.Room())
			}
		}
	}
}

// P6.3: like things are there as often as they were put, and are taken one by one.
func TestLikeThings(t *testing.T) {
	b := made(t, 6, 4, 4, 0, 4, 0)
	takes(t, b, 1, 4, api.OK)
	holds(t, "one of three 4", b, 2, 4, 0, 4, 0)
	puts(t, b, api.OK, 4, 4)
	takes(t, b, 1, 0, api.OK)
	takes(t, b, 0, 4, api.OK)
	holds(t, "a 0 and a 4", b, 2, 4, 0, 4, 4)
	for _, want := range []int{4, 4, 0, 4} {
		takes(t, b, b.Len()-1, want, api.OK)
	}
	holds(t, "all taken", b, 6)
}

// pair is a bag, and what it should be.
type pair struct {
	b *bag.Bag[int]
	p plain
}

// same asks that the bag is what it should be.
func (x *pair) same(t *testing.T, what string) {
	t.Helper()
	holds(t, what, x.b, x.p.most-len(x.p.list), x.p.list...)
}

func (x *pair) put(t *testing.T, n int) {
	t.Helper()
	if got, want := x.b.Put(n), x.p.put(n); got != want {
		t.Fatalf("put %d into %v: %v, not %v", n, x.p.list, got, want)
	}
}

func (x *pair) take(t *testing.T, i int) {
	t.Helper()
	was := x.p.list
	want, wantErr := x.p.take(i)
	if got, e := x.b.Take(i); got != want || e != wantErr {
		t.Fatalf("take %d of %v: %d, %v, not %d, %v", i, was, got, e, want, wantErr)
	}
}

// P6.1 to P6.3: all rows of seven calls, at each small room, with a copy that is gone on with, against the document's words.
func TestAllShortRows(t *testing.T) {
	const calls, kinds = 7, 5
	rows := 1
	for range calls {
		rows *= kinds
	}
	for room := range 5 {
		for row := range rows {
			x := pair{made(t, room), plain{most: room}}
			for i, left := 0, row; i < calls; i, left = i+1, left/kinds {
				switch kind := left % kinds; kind {
				case 0:
					x.put(t, 10+i)
				case 1:
					x.b = x.b.Copy()
				default:
					x.take(t, kind-2)
				}
			}
			x.same(t, "seven calls")
		}
	}
}

// P6.1 to P6.3: long rows of calls, over several bags that are copied from one another, against the document's words.
func TestAgainstTheWords(t *testing.T) {
	r := rand.New(rand.NewSource(6))
	for range 300 {
		room := []int{r.Intn(5), r.Intn(40), r.Intn(2001)}[r.Intn(3)]
		all := []pair{{made(t, room), plain{most: room}}}
		puts := 1 + r.Intn(9)
		for call := range 400 {
			x := &all[r.Intn(len(all))]
			switch k := r.Intn(12); {
			case k < puts:
				for range 1 + r.Intn(1+room/20) {
					x.put(t, call+1)
				}
			case k < 10:
				x.take(t, r.Intn(len(x.p.list)+3)-1)
			case len(all) < 4:
				all = append(all, pair{x.b.Copy(), x.p})
			default:
				all[r.Intn(len(all))] = pair{x.b.Copy(), x.p}
			}
			if call%20 == 0 {
				for i := range all {
					all[i].same(t, "calls")
				}
			}
		}
	}
}

// P6.1: a copy has the same things and room, and neither changes the other, wherever the first thing stands.
func TestCopyGoesOnByItself(t *testing.T) {
	for room := range 7 {
		for gone := range room + 1 {
			for n := range room + 1 {
				b, l := made(t, room), rising(1, n)
				for range gone {
					puts(t, b, api.OK, 9)
					takes(t, b, 0, 9, api.OK)
				}
				puts(t, b, api.OK, l...)
				c := b.Copy()
				holds(t, "the copy", c, room-n, l...)
				d := c.Copy()
				more := rising(50, room-n)
				puts(t, c, api.OK, more...)
				puts(t, c, api.ErrFull, 3)
				holds(t, "the copy is filled", c, 0, append(slices.Clone(l), more...)...)
				holds(t, "its copy is filled", b, room-n, l...)
				for range n {
					takes(t, b, b.Len()-1, l[b.Len()-1], api.OK)
				}
				puts(t, b, api.OK, rising(70, room)...)
				holds(t, "the first is made anew", b, 0, rising(70, room)...)
				holds(t, "its copy", c, 0, append(slices.Clone(l), more...)...)
				holds(t, "the copy's copy", d, room-n, l...)
			}
		}
	}
}

// isNone asks that b answers as a bag does that nobody made, however often it is asked.
func isNone[T comparable](t *testing.T, what string, b *bag.Bag[T], x T) {
	t.Helper()
	var nothing T
	for range 3 {
		if e := b.Put(x); e != api.ErrNil {
			t.Errorf("%s: put: %v", what, e)
		}
		for _, i := range []int{math.MinInt, -1, 0, 1, 2, 2000, 2001, math.MaxInt} {
			if got, e := b.At(i); got != nothing || e != api.ErrNil {
				t.Errorf("%s: at %d: %v", what, i, e)
			}
			if got, e := b.Take(i); got != nothing || e != api.ErrNil {
				t.Errorf("%s: take %d: %v", what, i, e)
			}
		}
		if b.Len() != 0 || b.Room() != 0 || b.All() != nil || b.Copy() != nil {
			t.Errorf("%s: %d things, room %d, all %v, a copy %v", what, b.Len(), b.Room(), b.All(), b.Copy())
		}
	}
}

// Rule 5: of none all is nought, and ErrNil: of nil, of what nobody made, and of a copy of the fields, which neither New nor Copy answered.
func TestNone(t *testing.T) {
	isNone(t, "nil", nil, 5)
	isNone(t, "nil of texts", nil, "a")
	isNone(t, "nobody's", &bag.Bag[int]{}, 5)
	isNone(t, "nobody's, of texts", new(bag.Bag[string]), "a")
	var held struct{ b bag.Bag[int] }
	isNone(t, "a field", &held.b, 5)
	b := made(t, 3, 7, 8)
	copied := *b
	isNone(t, "a copy of the fields", &copied, 5)
	again := *b.Copy()
	isNone(t, "a copy of a copy's fields", &again, 5)
	holds(t, "the one that was copied", b, 1, 7, 8)
	bad, _ := bag.New[int](-1)
	isNone(t, "refused", bad, 5)
	isNone(t, "a copy of none", (*bag.Bag[int])(nil).Copy(), 5)
	*b = bag.Bag[int]{}
	isNone(t, "emptied", b, 5)
}

// Rule 4: what All tells is new memory, its spare room too; to change it changes neither the bag nor its copies, nor what is told else.
func TestAllIsNew(t *testing.T) {
	for _, gone := range []int{0, 1, 3, 5} {
		for n := range 7 {
			b, l := made(t, 6), rising(1, n)
			for range gone {
				puts(t, b, api.OK, 9)
				takes(t, b, 0, 9, api.OK)
			}
			puts(t, b, api.OK, l...)
			c := b.Copy()
			for _, x := range []*bag.Bag[int]{b, c, b, c} {
				first, second := x.All(), x.All()
				first = first[:cap(first)]
				for i := range first {
					first[i] = -7
				}
				_ = append(first, -8, -9)
				if !slices.Equal(second, l) {
					t.Fatalf("two lists share memory: %v, not %v", second, l)
				}
			}
			holds(t, "lists were changed", b, 6-n, l...)
			holds(t, "lists were changed", c, 6-n, l...)
			told := b.All()
			for range n {
				takes(t, b, 0, l[n-b.Len()], api.OK)
			}
			puts(t, b, api.OK, rising(60, 6)...)
			if !slices.Equal(told, l) {
				t.Fatalf("the bag changed what it told: %v, not %v", told, l)
			}
		}
	}
}

// note is a thing of several parts, one of which is not comparable.
type note struct {
	kind int
	data []byte
}

// anything goes through a bag of any kind of things.
func anything[T any](t *testing.T, what string, same func(a, b T) bool, l ...T) {
	t.Helper()
	b, e := bag.New[T](len(l))
	if e != api.OK {
		t.Fatalf("%s: %v", what, e)
	}
	var nothing T
	for range 3 {
		for _, x := range l {
			if e := b.Put(x); e != api.OK {
				t.Errorf("%s: put: %v", what, e)
			}
		}
		if e := b.Put(l[0]); e != api.ErrFull {
			t.Errorf("%s: put into a full one: %v", what, e)
		}
		if x, e := b.At(len(l)); !same(x, nothing) || e != api.ErrRange {
			t.Errorf("%s: at: %v, %v", what, x, e)
		}
		if x, e := b.Take(-1); !same(x, nothing) || e != api.ErrRange {
			t.Errorf("%s: take: %v, %v", what, x, e)
		}
		c := b.Copy()
		if !slices.EqualFunc(b.All(), l, same) || !slices.EqualFunc(c.All(), l, same) {
			t.Errorf("%s: all: %v, %v, not %v", what, b.All(), c.All(), l)
		}
		for i := range l {
			if x, e := b.At(0); !same(x, l[i]) || e != api.OK {
				t.Errorf("%s: at 0: %v, %v", what, x, e)
			}
			if x, e := b.Take(0); !same(x, l[i]) || e != api.OK {
				t.Errorf("%s: take 0: %v, %v", what, x, e)
			}
		}
	}
}

// equal tells whether two things that can be compared are the same.
func equal[T comparable](a, b T) bool { return a == b }

// P6.1 to P6.3: a bag is of anything: of what is compared and what is not, of nothing at all, of bags.
func TestOfAnything(t *testing.T) {
	one, two := 1, 1
	anything(t, "texts", equal, "b", "", "a", "b")
	anything(t, "pointers", equal, &one, nil, &two, &one)
	anything(t, "nothing at all", equal, struct{}{}, struct{}{}, struct{}{})
	anything(t, "arrays", equal, [2]byte{1, 2}, [2]byte{}, [2]byte{0, 2})
	anything(t, "ids", equal, api.ID{1}, api.ID{31: 1})
	anything[any](t, "unlike things", equal, 1, "1", nil, 1.5)
	anything[error](t, "errors", equal, api.ErrFull, nil, api.OK)
	anything(t, "not a number", func(a, b float64) bool { return math.Float64bits(a) == math.Float64bits(b) }, math.NaN(), 0, math.Copysign(0, -1))
	anything(t, "lists", slices.Equal, []byte{1}, nil, []byte{1, 2})
	anything(t, "notes", func(a, b note) bool { return a.kind == b.kind && slices.Equal(a.data, b.data) }, note{1, []byte{1}}, note{}, note{0, []byte{2}})
	anything(t, "functions", func(a, b func() int) bool { return (a == nil) == (b == nil) && (a == nil || a() == b()) }, func() int { return 1 }, nil, func() int { return 2 })
	anything(t, "great things", equal, [1 << 16]byte{1}, [1 << 16]byte{2}, [1 << 16]byte{0xffff: 3})
	anything(t, "bags", equal, made(t, 1, 1), nil, made(t, 2))
	inner := made(t, 2, 5)
	outer, _ := bag.New[*bag.Bag[int]](1)
	if e := outer.Put(inner); e != api.OK {
		t.Fatalf("put a bag: %v", e)
	}
	got, _ := outer.Take(0)
	holds(t, "a bag in a bag", got, 1, 5)
}

// P1: rooms of great things are there without the things, however great.
func TestRoomOfGreatThings(t *testing.T) {
	for range 10 {
		b, e := bag.New[[1 << 20]byte](2000)
		if e != api.OK || b.Room() != 2000 || b.Len() != 0 {
			t.Fatalf("new: %v", e)
		}
		if c := b.Copy(); c.Room() != 2000 || c.Len() != 0 {
			t.Fatal("copy of an empty one")
		}
	}
}
