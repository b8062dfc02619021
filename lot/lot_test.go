package lot_test

import (
	"math"
	"math/rand"
	"slices"
	"testing"

	"chartulary/api"
	"chartulary/lot"
)

// plain is lots as the document's words say: a list, and how many of them were used.
type plain struct {
	list []int
	used int
}

func (p *plain) draw() int {
	at := p.used
	p.used++
	if at >= len(p.list) {
		return 0
	}
	return p.list[at]
}

func (p *plain) pick(n int) int {
	if n < 2 {
		return 0
	}
	return p.draw() % n
}

func (p *plain) shuffle(n int) []int {
	if n < 1 || n > 64 {
		return nil
	}
	out := plainRising(n)
	for i := n - 1; i >= 1; i-- {
		k := p.pick(i + 1)
		was := out[i]
		out[i] = out[k]
		out[k] = was
	}
	return out
}

// plainRising tells 0 to n - 1.
func plainRising(n int) []int {
	out := make([]int, 0, n)
	for i := range n {
		out = append(out, i)
	}
	return out
}

// made tells the lots of l, where there must be some.
func made(t *testing.T, l ...int) *lot.Lots {
	t.Helper()
	x, e := lot.New(l)
	if x == nil || e != api.OK {
		t.Fatalf("new of %d numbers: %v", len(l), e)
	}
	return x
}

// draws asks that x draws just these.
func draws(t *testing.T, what string, x *lot.Lots, want ...int) {
	t.Helper()
	for i, n := range want {
		if got := x.Draw(); got != n {
			t.Errorf("%s: the draw %d is %d, not %d", what, i, got, n)
		}
	}
}

// used asks that so many of x were drawn.
func used(t *testing.T, what string, x *lot.Lots, want int) {
	t.Helper()
	if got := x.Used(); got != want {
		t.Errorf("%s: %d used, not %d", what, got, want)
	}
}

// numbers tells n numbers, the same ones each time, small and great ones.
func numbers(n int, seed int64) []int {
	r := rand.New(rand.NewSource(seed))
	out := make([]int, n)
	for i := range out {
		out[i] = r.Int() >> r.Intn(63)
	}
	return out
}

// The document's examples.
func TestExamples(t *testing.T) {
	x := made(t, 7, 3)
	if got := x.Pick(5); got != 2 {
		t.Errorf("pick: %d", got)
	}
	draws(t, "7 3", x, 3, 0)
	used(t, "7 3", x, 3)
	x = made(t)
	if got := x.Shuffle(3); !slices.Equal(got, []int{1, 2, 0}) {
		t.Errorf("shuffle without lots: %v", got)
	}
	if got := x.Shuffle(1); !slices.Equal(got, []int{0}) {
		t.Errorf("shuffle of one: %v", got)
	}
	if got := made(t, 2, 1).Shuffle(3); !slices.Equal(got, []int{0, 1, 2}) {
		t.Errorf("shuffle with 2 1: %v", got)
	}
	if x, e := lot.New([]int{-1}); x != nil || e != api.ErrArg {
		t.Errorf("new of -1: %v", e)
	}
}

// P5.1: each number is drawn once, in order, and then 0; all draws count.
func TestDraw(t *testing.T) {
	for _, l := range [][]int{nil, {}, {0}, {5}, {0, 0, 0}, {1, 0, 2}, {3, 3}, {math.MaxInt, 0, math.MaxInt}, {math.MaxInt32, math.MaxInt32 + 1}, plainRising(1000), make([]int, 1000), numbers(999, 1), numbers(1000, 2)} {
		x := made(t, l...)
		used(t, "new", x, 0)
		for i, n := range l {
			draws(t, "there", x, n)
			used(t, "there", x, i+1)
		}
		for i := range 20 {
			draws(t, "behind the end", x, 0)
			used(t, "behind the end", x, len(l)+i+1)
		}
	}
}

// P5.1: to ask how many were drawn draws nothing.
func TestUsedDrawsNothing(t *testing.T) {
	x := made(t, 4, 5)
	for range 5 {
		used(t, "new", x, 0)
	}
	draws(t, "4 5", x, 4)
	for range 5 {
		used(t, "one drawn", x, 1)
	}
	draws(t, "4 5", x, 5)
}

// P5.1: too many, and numbers below 0 wherever they stand; too many comes first.
func TestNewRefuses(t *testing.T) {
	refuses := func(l []int, want api.Errno) {
		t.Helper()
		if x, e := lot.New(l); x != nil || e != want {
			t.Errorf("new of %d numbers: %v, %v, not %v", len(l), x, e, want)
		}
	}
	for _, n := range []int{1001, 1002, 1024, 2000, 70000} {
		refuses(make([]int, n), api.ErrLong)
		refuses(slices.Repeat([]int{-1}, n), api.ErrLong)
		for _, at := range []int{0, 1, 999, 1000, n - 1} {
			l := make([]int, n)
			l[at] = -1
			refuses(l, api.ErrLong)
		}
	}
	for _, below := range []int{-1, -2, -1000, math.MinInt32, math.MinInt + 1, math.MinInt} {
		refuses([]int{below}, api.ErrArg)
		refuses([]int{below, below}, api.ErrArg)
		for at := range 1000 {
			l := make([]int, 1000)
			l[at] = below
			refuses(l, api.ErrArg)
		}
	}
	refuses([]int{1, 2, -1}, api.ErrArg)
	refuses([]int{-1, 2, 3}, api.ErrArg)
	refuses([]int{math.MaxInt, -1}, api.ErrArg)
}

// P5.1: the least and the greatest numbers, and as many as there may be, are lots.
func TestNewTakes(t *testing.T) {
	for _, l := range [][]int{nil, {}, {0}, {math.MaxInt}, make([]int, 1000), slices.Repeat([]int{math.MaxInt}, 1000), make([]int, 0, 5000), make([]int, 3, 5000)} {
		draws(t, "taken", made(t, l...), l...)
	}
}

// P5.2: below 2 nothing is drawn; else what is drawn, modulo n.
func TestPick(t *testing.T) {
	for _, n := range []int{1, 0, -1, -2, -64, math.MinInt32, math.MinInt} {
		x := made(t, 7, 8)
		for range 3 {
			if got := x.Pick(n); got != 0 {
				t.Errorf("pick %d: %d", n, got)
			}
		}
		used(t, "nothing to pick", x, 0)
		draws(t, "nothing was picked", x, 7, 8, 0)
		if got := x.Pick(n); got != 0 {
			t.Errorf("pick %d behind the end: %d", n, got)
		}
		used(t, "nothing to pick behind the end", x, 3)
	}
	for _, n := range []int{2, 3, 5, 10, 63, 64, 65, 1000, 1 << 31, 1 << 62, math.MaxInt - 1, math.MaxInt} {
		for _, drawn := range []int{0, 1, 2, n / 2, n - 2, n - 1, n, 127, 128, 1 << 40, math.MaxInt - 1, math.MaxInt} {
			x := made(t, drawn, 9)
			if got := x.Pick(n); got != drawn%n {
				t.Errorf("pick %d of %d: %d, not %d", n, drawn, got, drawn%n)
			}
			used(t, "one picked", x, 1)
			draws(t, "one picked", x, 9, 0)
			if got := x.Pick(n); got != 0 {
				t.Errorf("pick %d behind the end: %d", n, got)
			}
			used(t, "picked behind the end", x, 4)
		}
	}
}

// P5.3: no such order: nothing is told, nothing drawn. An order of one draws nothing.
func TestShuffleOfNoOrder(t *testing.T) {
	for _, n := range []int{0, -1, -63, -64, math.MinInt32, math.MinInt, 65, 66, 128, 1000, 1 << 32, 1<<32 + 3, math.MaxInt} {
		x := made(t, 7, 8)
		if got := x.Shuffle(n); len(got) != 0 {
			t.Errorf("shuffle %d: %v", n, got)
		}
		used(t, "no order", x, 0)
		draws(t, "no order", x, 7, 8)
	}
	x := made(t, 7, 8)
	if got := x.Shuffle(1); !slices.Equal(got, []int{0}) {
		t.Errorf("shuffle 1: %v", got)
	}
	used(t, "an order of one", x, 0)
	draws(t, "an order of one", x, 7, 8)
}

// P5.3: orders of all lengths, with lots enough, with fewer, and with none, against the document's words.
func TestShuffleEachLength(t *testing.T) {
	for n := 1; n <= 64; n++ {
		for _, many := range []int{0, 1, n / 2, n - 2, n - 1, n, 200} {
			l := numbers(max(many, 0), int64(n))
			x, p := made(t, l...), &plain{list: l}
			for range 3 {
				if got, want := x.Shuffle(n), p.shuffle(n); !slices.Equal(got, want) {
					t.Fatalf("shuffle %d by %d lots: %v, not %v", n, len(l), got, want)
				}
				used(t, "shuffled", x, p.used)
			}
			if p.used != 3*(n-1) {
				t.Fatalf("shuffle %d draws %d", n, p.used)
			}
			draws(t, "shuffled", x, p.draw(), p.draw())
		}
	}
}

// P5.3: orders written out by hand: where the first exchange is the last number's.
func TestShuffleByHand(t *testing.T) {
	for _, x := range []struct {
		n       int
		l, want []int
	}{
		{2, []int{0}, []int{1, 0}}, {2, []int{1}, []int{0, 1}}, {2, []int{2}, []int{1, 0}}, {2, nil, []int{1, 0}},
		{3, []int{0, 0}, []int{1, 2, 0}}, {3, []int{0, 1}, []int{2, 1, 0}}, {3, []int{1, 0}, []int{2, 0, 1}}, {3, []int{1, 1}, []int{0, 2, 1}}, {3, []int{2, 0}, []int{1, 0, 2}}, {3, []int{2, 1}, []int{0, 1, 2}},
		{3, []int{3, 2}, []int{1, 2, 0}}, {3, []int{1}, []int{2, 0, 1}}, {3, []int{5, 3, 9}, []int{0, 1, 2}},
		{4, []int{3, 2, 1}, []int{0, 1, 2, 3}}, {4, []int{0, 1, 0}, []int{2, 3, 1, 0}}, {4, []int{2, 2}, []int{1, 0, 3, 2}}, {4, []int{7, 0, 3}, []int{2, 1, 0, 3}},
	} {
		if got := made(t, x.l...).Shuffle(x.n); !slices.Equal(got, x.want) {
			t.Errorf("shuffle %d by %v: %v, not %v", x.n, x.l, got, x.want)
		}
	}
}

// P5.4: by what can be picked each order comes just once.
func TestEachOrderComesOnce(t *testing.T) {
	count := 1
	for n := 1; n <= 6; n++ {
		count *= n
		seen := map[string]int{}
		for i := range count {
			var l []int
			for of := n; of > 1; of-- {
				l = append(l, i%of)
				i /= of
			}
			order := made(t, l...).Shuffle(n)
			text := ""
			for _, k := range order {
				text += string(rune('0' + k))
			}
			seen[text]++
			slices.Sort(order)
			if !slices.Equal(order, plainRising(n)) {
				t.Fatalf("shuffle %d by %v: %s", n, l, text)
			}
		}
		if len(seen) != count {
			t.Errorf("%d orders of %d numbers, not %d", len(seen), n, count)
		}
	}
}

// P5.4: whatever the lots, an order has each number once; without lots it is 1, 2, .. and 0.
func TestOrdersAreWhole(t *testing.T) {
	for n := 1; n <= 64; n++ {
		for seed := range int64(50) {
			got := made(t, numbers(int(seed)*2, seed)...).Shuffle(n)
			slices.Sort(got)
			if !slices.Equal(got, plainRising(n)) {
				t.Fatalf("shuffle %d: not each number once", n)
			}
		}
		without := append(plainRising(n)[1:], 0)
		x := made(t, 5)
		x.Draw()
		for _, none := range []*lot.Lots{made(t), x, x, made(t, make([]int, 1000)...)} {
			if got := none.Shuffle(n); !slices.Equal(got, without) {
				t.Errorf("shuffle %d without lots: %v", n, got)
			}
		}
	}
}

// P5.4: what is drawn hangs on the lots that are left alone, not on those that were used, or how.
func TestWhatIsDrawnHangsOnWhatIsLeft(t *testing.T) {
	left := numbers(40, 3)
	for ahead := range 60 {
		x, fresh := made(t, append(numbers(ahead, 4), left...)...), made(t, left...)
		for x.Used() < ahead {
			if x.Used()%3 == 0 {
				x.Pick(7)
			} else if n := min(ahead-x.Used()+1, 5); x.Used()%3 == 1 {
				x.Shuffle(n)
			} else {
				x.Draw()
			}
		}
		for n := 30; n > -3; n -= 3 {
			if got, want := x.Shuffle(n), fresh.Shuffle(n); !slices.Equal(got, want) {
				t.Fatalf("%d drawn ahead: shuffle %d: %v, not %v", ahead, n, got, want)
			}
			if got, want := x.Pick(n), fresh.Pick(n); got != want {
				t.Fatalf("%d drawn ahead: pick %d: %d, not %d", ahead, n, got, want)
			}
			draws(t, "drawn ahead", x, fresh.Draw())
			used(t, "drawn ahead", x, fresh.Used()+ahead)
		}
	}
}

// P5.1 to P5.4: calls of all kinds in any order, against the document's words.
func TestAgainstTheWords(t *testing.T) {
	r := rand.New(rand.NewSource(5))
	for range 3000 {
		l := numbers(r.Intn(100), r.Int63())
		x, p := made(t, l...), &plain{list: l}
		for range 30 {
			n := r.Intn(80) - 5
			switch r.Intn(3) {
			case 0:
				draws(t, "draw", x, p.draw())
			case 1:
				if got, want := x.Pick(n), p.pick(n); got != want {
					t.Fatalf("pick %d: %d, not %d", n, got, want)
				}
			case 2:
				if got, want := x.Shuffle(n), p.shuffle(n); !slices.Equal(got, want) {
					t.Fatalf("shuffle %d: %v, not %v", n, got, want)
				}
			}
			used(t, "calls", x, p.used)
		}
	}
}

// isNone asks that x answers as lots do that nobody made, however often it is asked.
func isNone(t *testing.T, what string, x *lot.Lots) {
	t.Helper()
	for range 3 {
		draws(t, what, x, 0)
		for _, n := range []int{math.MinInt, -1, 0, 1, 2, 3, 64, 65, math.MaxInt} {
			if got := x.Pick(n); got != 0 {
				t.Errorf("%s: pick %d: %d", what, n, got)
			}
			if got := x.Shuffle(n); got != nil {
				t.Errorf("%s: shuffle %d: %v", what, n, got)
			}
		}
		used(t, what, x, 0)
	}
}

// Rule 5: of none all is nought: of nil, of what nobody made, and of a copy of the fields, which New did not answer.
func TestNone(t *testing.T) {
	isNone(t, "nil", nil)
	isNone(t, "nobody's", &lot.Lots{})
	var held struct{ lots lot.Lots }
	isNone(t, "a field", &held.lots)
	x := made(t, 7, 3, 9)
	x.Draw()
	copied := *x
	isNone(t, "a copy", &copied)
	draws(t, "the one that was copied", x, 3, 9, 0)
	used(t, "the one that was copied", x, 4)
	bad, _ := lot.New([]int{-1})
	isNone(t, "refused", bad)
	again := made(t, 4)
	*again = lot.Lots{}
	isNone(t, "emptied", again)
}

// Rule 4: the list is not changed, and not looked at any more when New has answered; its spare room never is.
func TestArgumentsStay(t *testing.T) {
	for _, n := range []int{0, 1, 5, 900} {
		room := numbers(n+100, 6)
		for i := n; i < len(room); i++ {
			room[i] = -1
		}
		was := slices.Clone(room)
		x := made(t, room[:n]...)
		draws(t, "first half", x, was[:n/2]...)
		if !slices.Equal(room, was) {
			t.Errorf("%d numbers: they are changed, or their spare room is", n)
		}
		for i := range room {
			room[i] = 77
		}
		draws(t, "second half", x, was[n/2:n]...)
		draws(t, "behind the end", x, 0, 0)
		x.Shuffle(64)
		if slices.ContainsFunc(room, func(k int) bool { return k != 77 }) {
			t.Errorf("%d numbers: a draw changes them, or their spare room", n)
		}
	}
	for _, l := range [][]int{append(make([]int, 1000), 1)[:1000], append(make([]int, 1000), -1)[:1000]} {
		made(t, l...)
	}
}

// Two of one list go on by themselves.
func TestEachGoesOnByItself(t *testing.T) {
	l := []int{4, 5, 6}
	a, b := made(t, l...), made(t, l...)
	draws(t, "the one", a, 4, 5)
	draws(t, "the other one", b, 4)
	a.Shuffle(10)
	draws(t, "the other one", b, 5, 6, 0)
	used(t, "the one", a, 11)
	used(t, "the other one", b, 4)
}

// wipe turns all numbers of an order, those of its spare room too.
func wipe(order []int) {
	order = order[:cap(order)]
	for i := range order {
		order[i] = ^order[i]
	}
}

// Rule 4: an order is new memory, its spare room too.
func TestOrdersAreNew(t *testing.T) {
	for _, n := range []int{1, 2, 5, 64} {
		l := numbers(300, 7)
		x, p := made(t, l...), &plain{list: l}
		var orders, wants [][]int
		for range 3 {
			orders, wants = append(orders, x.Shuffle(n)), append(wants, p.shuffle(n))
		}
		for i, order := range orders {
			wipe(order)
			for k := i + 1; k < len(orders); k++ {
				if !slices.Equal(orders[k], wants[k]) {
					t.Errorf("shuffle %d: the orders %d and %d share memory", n, i, k)
				}
			}
		}
		draws(t, "orders were changed", x, p.draw(), p.draw())
		if got, want := x.Shuffle(n), p.shuffle(n); !slices.Equal(got, want) {
			t.Errorf("shuffle %d hangs on orders that were changed: %v, not %v", n, got, want)
		}
	}
}
