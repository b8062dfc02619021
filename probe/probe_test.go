package probe_test

import (
	"math"
	"math/rand"
	"slices"
	"testing"

	"chartulary/api"
	"chartulary/lot"
	"chartulary/probe"
)

// lots tells lots of just these numbers.
func lots(t *testing.T, l ...int) *lot.Lots {
	t.Helper()
	x, e := lot.New(l)
	if e != api.OK {
		t.Fatalf("lots of %d numbers: %v", len(l), e)
	}
	return x
}

// numbers tells n numbers, the same ones each time, small and great ones.
func numbers(n int, seed int64) []int {
	r := rand.New(rand.NewSource(seed))
	out := make([]int, n)
	for i := range out {
		out[i] = r.Int() >> r.Intn(63)
	}
	return out
}

// upTo tells the nodes from 1 to n, rising.
func upTo(n int) []int {
	var out []int
	for node := 1; node <= n; node++ {
		out = append(out, node)
	}
	return out
}

// kept tells lots by which n things stay in the order that they have.
func kept(t *testing.T, n int) *lot.Lots {
	t.Helper()
	var l []int
	for i := n - 1; i >= 1; i-- {
		l = append(l, i)
	}
	return lots(t, l...)
}

// made tells a round of such nodes, where there must be one.
func made(t *testing.T, l *lot.Lots, nodes ...int) *probe.Round {
	t.Helper()
	r, e := probe.New(nodes, l)
	if r == nil || e != api.OK {
		t.Fatalf("new of %v: %v", nodes, e)
	}
	return r
}

// stands asks that a round has just these nodes in order, of which so many were told.
func stands(t *testing.T, r *probe.Round, told int, order ...int) {
	t.Helper()
	if l := r.Order(); !slices.Equal(l, order) || r.Told() != told {
		t.Errorf("%v, %d told, not %v, %d told", l, r.Told(), order, told)
	}
}

// tells asks that the next ones are just these.
func tells(t *testing.T, r *probe.Round, l *lot.Lots, nodes ...int) {
	t.Helper()
	for i, want := range nodes {
		if node := r.Next(l); node != want {
			t.Errorf("the next one of the number %d: %d, not %d", i, node, want)
		}
	}
}

// adds and removes ask that a node comes or goes with such an error.
func adds(t *testing.T, r *probe.Round, node int, l *lot.Lots, want api.Errno) {
	t.Helper()
	if e := r.Add(node, l); e != want {
		t.Errorf("add %d: %v, not %v", node, e, want)
	}
}

func removes(t *testing.T, r *probe.Round, node int, want api.Errno) {
	t.Helper()
	if e := r.Remove(node); e != want {
		t.Errorf("remove %d: %v, not %v", node, e, want)
	}
}

// drawn asks that so many of the lots were drawn.
func drawn(t *testing.T, what string, l *lot.Lots, want int) {
	t.Helper()
	if n := l.Used(); n != want {
		t.Errorf("%s: %d lots drawn, not %d", what, n, want)
	}
}

// nones tells lots that are none: nil, nobody's, and a copy of some.
func nones(t *testing.T) []*lot.Lots {
	t.Helper()
	copied := *lots(t, 5, 7, 9, 11, 13)
	return []*lot.Lots{nil, {}, &copied}
}

// The document's examples.
func TestExamples(t *testing.T) {
	r := made(t, nil, 4, 5, 6)
	stands(t, r, 0, 5, 6, 4)
	tells(t, r, nil, 5, 6)
	adds(t, r, 9, nil, api.OK)
	stands(t, r, 2, 5, 6, 9, 4)
	removes(t, r, 5, api.OK)
	stands(t, r, 1, 6, 9, 4)
	tells(t, r, nil, 9, 4, 9)
	stands(t, r, 1, 9, 4, 6)
	if r, e := probe.New([]int{1, 1}, nil); r != nil || e != api.ErrArg {
		t.Errorf("new of 1 1: %v", e)
	}
	adds(t, r, 9, nil, api.ErrExists)
	removes(t, r, 7, api.ErrMissing)
}

// P14.1: rounds of each length: lots say which node comes first, second and so on, and so many are drawn as that takes.
func TestNewEachLength(t *testing.T) {
	for n := range 65 {
		for _, many := range []int{0, 1, n / 2, 200} {
			nodes := upTo(n)
			rand.New(rand.NewSource(int64(n))).Shuffle(n, func(i, j int) { nodes[i], nodes[j] = nodes[j], nodes[i] })
			l, again := lots(t, numbers(many, int64(n))...), lots(t, numbers(many, int64(n))...)
			var want []int
			for _, at := range again.Shuffle(n) {
				want = append(want, nodes[at])
			}
			stands(t, made(t, l, nodes...), 0, want...)
			drawn(t, "new", l, max(0, n-1))
		}
	}
}

// P14.1: orders written out by hand.
func TestNewByHand(t *testing.T) {
	for _, x := range []struct{ lots, nodes, want []int }{
		{nil, nil, nil}, {[]int{1}, []int{64}, []int{64}}, {nil, []int{8, 3}, []int{3, 8}}, {[]int{1}, []int{8, 3}, []int{8, 3}},
		{[]int{0, 0}, []int{4, 5, 6}, []int{5, 6, 4}}, {[]int{0, 1}, []int{4, 5, 6}, []int{6, 5, 4}}, {[]int{1, 0}, []int{4, 5, 6}, []int{6, 4, 5}}, {[]int{2, 1}, []int{4, 5, 6}, []int{4, 5, 6}},
		{[]int{1, 0}, []int{64, 1, 30}, []int{30, 64, 1}}, {[]int{7, 0, 3}, []int{10, 20, 30, 40}, []int{30, 20, 10, 40}}, {nil, []int{10, 20, 30, 40}, []int{20, 30, 40, 10}},
	} {
		stands(t, made(t, lots(t, x.lots...), x.nodes...), 0, x.want...)
	}
}

// P14.1: what is no node, wherever it stands, and what is there twice, wherever both stand; nothing is drawn for it.
func TestNewRefuses(t *testing.T) {
	l := lots(t, 1, 2, 3)
	refuses := func(nodes ...int) {
		t.Helper()
		if r, e := probe.New(nodes, l); r != nil || e != api.ErrArg {
			t.Errorf("new of %d nodes: %v", len(nodes), e)
		}
		drawn(t, "refused", l, 0)
	}
	for _, wrong := range []int{math.MinInt, math.MinInt32, -64, -1, 0, 65, 66, 128, 1 << 31, 1<<32 + 1, math.MaxInt} {
		refuses(wrong)
		refuses(wrong, wrong)
		for _, n := range []int{2, 3, 10, 63, 64} {
			for at := range n {
				nodes := upTo(n)
				nodes[at] = wrong
				refuses(nodes...)
			}
		}
	}
	for n := 2; n <= 64; n++ {
		for i := range n {
			for _, j := range []int{0, i - 1, i + 1, n - 1} {
				if j >= 0 && j < n && j != i {
					nodes := upTo(n)
					nodes[i] = nodes[j]
					refuses(nodes...)
				}
			}
		}
		refuses(slices.Repeat([]int{n}, n)...)
	}
	refuses(append(upTo(64), 1)...)
	refuses(append(upTo(64), 65)...)
	refuses(slices.Repeat(upTo(64), 1000)...)
	refuses(make([]int, 100000)...)
}

// P14.1: to ask for the order, or for how many were told, tells nothing.
func TestAsked(t *testing.T) {
	l := lots(t, 2, 1)
	r := made(t, l, 4, 5, 6)
	for told, node := range []int{4, 5, 6} {
		for range 5 {
			stands(t, r, told, 4, 5, 6)
		}
		tells(t, r, l, node)
	}
	stands(t, r, 3, 4, 5, 6)
	drawn(t, "a whole order", l, 2)
}

// P14.2: an order is told to its end, and nothing drawn for it; then it is ordered anew, of the order that was, and as many drawn as that takes.
func TestNextEachLength(t *testing.T) {
	for n := 1; n <= 64; n++ {
		l, again := lots(t, numbers(150, int64(n))...), lots(t, numbers(150, int64(n))...)
		r := made(t, l, upTo(n)...)
		order := upTo(n)
		for round := range 4 {
			was := slices.Clone(order)
			for i, at := range again.Shuffle(n) {
				order[i] = was[at]
			}
			for told, node := range order {
				tells(t, r, l, node)
				stands(t, r, told+1, order...)
				drawn(t, "told", l, (round+1)*(n-1))
			}
		}
	}
}

// P14.2: without lots each order begins with the second one of the last order, and ends with its first one.
func TestNextWithoutLots(t *testing.T) {
	for _, none := range append(nones(t), lots(t)) {
		r := made(t, none, 1, 2, 3, 4)
		tells(t, r, none, 2, 3, 4, 1, 3, 4, 1, 2, 4, 1, 2, 3, 1, 2, 3, 4, 2)
		stands(t, r, 1, 2, 3, 4, 1)
	}
}

// P14.2: each Next may have lots of its own.
func TestNextByOtherLots(t *testing.T) {
	r := made(t, lots(t, 2, 1), 4, 5, 6)
	tells(t, r, lots(t, 9, 9, 9), 4)
	tells(t, r, nil, 5)
	tells(t, r, lots(t), 6)
	tells(t, r, lots(t, 0, 1), 6)
	stands(t, r, 1, 6, 5, 4)
	tells(t, r, nil, 5, 4)
	tells(t, r, nil, 5)
	stands(t, r, 1, 5, 4, 6)
}

// P14.2: of a round without nodes the next one is 0, and nothing is drawn; so is nothing of one node.
func TestNextOfFew(t *testing.T) {
	l := lots(t, 3, 4, 5)
	r := made(t, l)
	for range 5 {
		tells(t, r, l, 0)
		stands(t, r, 0)
	}
	adds(t, r, 7, l, api.OK)
	tells(t, r, l, 7, 7, 7, 7)
	stands(t, r, 1, 7)
	removes(t, r, 7, api.OK)
	stands(t, r, 0)
	tells(t, r, l, 0, 0)
	drawn(t, "of none and of one", l, 0)
	adds(t, r, 7, l, api.OK)
	stands(t, r, 0, 7)
}

// P14.3: a node comes behind those that were told, at each place there, as a lot says; of one place there is nothing to draw.
func TestAddEachPlace(t *testing.T) {
	for n := range 9 {
		for told := range n + 1 {
			for _, pick := range []int{0, 1, 2, 3, 4, 5, 6, 7, 8, 9, 1000, math.MaxInt} {
				r := made(t, kept(t, n), upTo(n)...)
				order := r.Order()
				tells(t, r, nil, order[:told]...)
				l := lots(t, pick, 77)
				adds(t, r, 50, l, api.OK)
				at := told + pick%(n-told+1)
				stands(t, r, told, slices.Concat(order[:at], []int{50}, order[at:])...)
				drawn(t, "added", l, min(1, n-told))
			}
		}
	}
}

// P14.3: none is drawn where lots are none, and the place is the first one behind those that were told.
func TestAddWithoutLots(t *testing.T) {
	for _, none := range append(nones(t), lots(t)) {
		r := made(t, none, 1, 2, 3)
		adds(t, r, 10, none, api.OK)
		stands(t, r, 0, 10, 2, 3, 1)
		tells(t, r, none, 10, 2)
		adds(t, r, 11, none, api.OK)
		stands(t, r, 2, 10, 2, 11, 3, 1)
		tells(t, r, none, 11, 3, 1)
		adds(t, r, 12, none, api.OK)
		stands(t, r, 5, 10, 2, 11, 3, 1, 12)
		tells(t, r, none, 12, 2)
	}
}

// P14.3: what is no node, and who is there, told or not; nothing is drawn for it, and nothing changed.
func TestAddRefuses(t *testing.T) {
	for _, n := range []int{0, 1, 2, 5, 63, 64} {
		for _, told := range []int{0, n / 2, n} {
			r := made(t, kept(t, n), upTo(n)...)
			tells(t, r, nil, upTo(told)...)
			l := lots(t, 1, 2, 3)
			for _, wrong := range []int{math.MinInt, math.MinInt32, -64, -1, 0, 65, 66, 128, 1 << 31, 1<<32 + 1, math.MaxInt} {
				adds(t, r, wrong, l, api.ErrArg)
			}
			for node := 1; node <= n; node++ {
				adds(t, r, node, l, api.ErrExists)
			}
			stands(t, r, told, upTo(n)...)
			drawn(t, "refused", l, 0)
		}
	}
}

// P14.3: all nodes there are may come, one by one, and again when they have gone.
func TestAddAll(t *testing.T) {
	l := lots(t, numbers(400, 3)...)
	r := made(t, l)
	for range 3 {
		for n, node := range upTo(64) {
			adds(t, r, node, l, api.OK)
			adds(t, r, node, l, api.ErrExists)
			if len(r.Order()) != n+1 {
				t.Fatalf("%v behind %d", r.Order(), node)
			}
		}
		var seen []int
		for range 64 {
			seen = append(seen, r.Next(l))
		}
		slices.Sort(seen)
		if !slices.Equal(seen, upTo(64)) {
			t.Errorf("told: %v", seen)
		}
		for _, node := range upTo(64) {
			removes(t, r, node, api.OK)
			removes(t, r, node, api.ErrMissing)
		}
		stands(t, r, 0)
	}
}

// P14.3: who goes is there no more, from each place, and one fewer was told if he was; the others stay as they stood.
func TestRemoveEachPlace(t *testing.T) {
	for n := 1; n <= 9; n++ {
		for told := range n + 1 {
			for at := range n {
				r := made(t, kept(t, n), upTo(n)...)
				tells(t, r, nil, upTo(told)...)
				removes(t, r, at+1, api.OK)
				left := slices.Concat(upTo(n)[:at], upTo(n)[at+1:])
				behind := told
				if at < told {
					behind--
				}
				stands(t, r, behind, left...)
				removes(t, r, at+1, api.ErrMissing)
				stands(t, r, behind, left...)
				tells(t, r, nil, left[behind:]...)
			}
		}
	}
}

// P14.3: who is not there can't go, be he a node or not; nothing is changed.
func TestRemoveRefuses(t *testing.T) {
	for _, n := range []int{0, 1, 5, 63, 64} {
		for _, told := range []int{0, n / 2, n} {
			r := made(t, kept(t, n), upTo(n)...)
			tells(t, r, nil, upTo(told)...)
			for _, other := range []int{math.MinInt, -64, -1, 0, n + 1, 65, 66, 128, 1 << 31, 1<<32 + 1, math.MaxInt} {
				removes(t, r, other, api.ErrMissing)
			}
			stands(t, r, told, upTo(n)...)
		}
	}
}

// P14.2, P14.3: when the last ones that were not told have gone, all were told, and the next one is of a new order; when one comes behind all, that one is the next.
func TestComeAndGoAtTheEnd(t *testing.T) {
	r := made(t, lots(t, 2, 1), 4, 5, 6)
	tells(t, r, nil, 4, 5)
	removes(t, r, 6, api.OK)
	stands(t, r, 2, 4, 5)
	l := lots(t, 0, 0, 0)
	tells(t, r, l, 5)
	drawn(t, "a new order of two", l, 1)
	tells(t, r, l, 4)
	adds(t, r, 9, l, api.OK)
	stands(t, r, 2, 5, 4, 9)
	drawn(t, "behind all", l, 1)
	tells(t, r, l, 9)
	drawn(t, "not all were told", l, 1)
	tells(t, r, l, 4)
	drawn(t, "a new order of three", l, 3)
	stands(t, r, 1, 4, 9, 5)
}

// Rule 5: what New did not answer is none: nil, what nobody made, a copy of the fields, and what was emptied; nothing is drawn for it.
func TestNone(t *testing.T) {
	r := made(t, nil, 4, 5, 6)
	tells(t, r, nil, 5)
	fields := *r
	emptied := made(t, nil, 1, 2)
	*emptied = probe.Round{}
	other := made(t, nil, 1, 2)
	*other = *r
	l := lots(t, 1, 2, 3)
	for i, none := range []*probe.Round{nil, {}, new(probe.Round), &fields, emptied, other} {
		for range 2 {
			for _, node := range []int{math.MinInt, -1, 0, 1, 4, 5, 64, 65, math.MaxInt} {
				adds(t, none, node, l, api.ErrNil)
				adds(t, none, node, nil, api.ErrNil)
				removes(t, none, node, api.ErrNil)
			}
			if none.Next(l) != 0 || none.Next(nil) != 0 || none.Order() != nil || none.Told() != 0 {
				t.Errorf("%d: %v, %d told", i, none.Order(), none.Told())
			}
		}
	}
	drawn(t, "none", l, 0)
	stands(t, r, 1, 5, 6, 4)
	tells(t, r, nil, 6, 4)
}

// DOC.md, rule 4: what was handed in is neither changed nor looked at later, its spare room not at all.
func TestArgumentsStay(t *testing.T) {
	for n := range 65 {
		room := append(upTo(n), 99, -1, 1, 1)
		r := made(t, nil, room[:n]...)
		want := r.Order()
		wipe(room)
		stands(t, r, 0, want...)
		if n < 64 {
			adds(t, r, 64, nil, api.OK)
		}
		for range 200 {
			r.Next(lots(t, 5, 3))
		}
		if slices.ContainsFunc(room, func(k int) bool { return k != wiped }) {
			t.Errorf("of %d nodes: %v", n, room)
		}
	}
}

// DOC.md, rule 4: an order is new memory, its spare room too: what is done to it changes nothing, and it stays.
func TestMemory(t *testing.T) {
	for n := range 64 {
		r := made(t, kept(t, n), upTo(n)...)
		a, b := r.Order(), r.Order()
		wipe(a)
		if !slices.Equal(b, upTo(n)) {
			t.Errorf("two orders of %d share memory", n)
		}
		stands(t, r, 0, upTo(n)...)
		adds(t, r, 64, nil, api.OK)
		for range n + 2 {
			b = r.Order()
			wipe(b)
			if node := r.Next(nil); node == wiped {
				t.Errorf("an order of %d was turned", n)
			}
		}
		removes(t, r, 64, api.OK)
		if slices.ContainsFunc(slices.Concat(a, b), func(k int) bool { return k != wiped }) {
			t.Errorf("an answer is changed: %v, %v", a, b)
		}
	}
}

const wiped = 77

// wipe turns all of a list, what is in its spare room too.
func wipe(l []int) {
	l = l[:cap(l)]
	for i := range l {
		l[i] = wiped
	}
}

// P1: rounds go on by themselves, and the same calls tell the same.
func TestApart(t *testing.T) {
	a, b, c := made(t, nil, 1, 2, 3), made(t, nil, 1, 2, 3), made(t, nil)
	tells(t, a, nil, 2, 3)
	removes(t, a, 1, api.OK)
	adds(t, c, 1, nil, api.OK)
	stands(t, b, 0, 2, 3, 1)
	tells(t, b, nil, 2, 3)
	removes(t, b, 1, api.OK)
	tells(t, a, lots(t, 4, 5), 3)
	tells(t, b, lots(t, 4, 5), 3)
	stands(t, a, 1, 3, 2)
	stands(t, b, 1, 3, 2)
	stands(t, c, 0, 1)
}
