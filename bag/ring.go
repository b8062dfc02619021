package bag

import "iter"

// ring is places that go round: its things stand from the place first on, and behind the last place comes place 0. It begins without places, so that a bag costs what was put, not what there is room for.
type ring[T any] struct {
	places []T
	first  int
	count  int
}

// cut tells the things as two slices: up to the last place, and from place 0 on.
func (r *ring[T]) cut() (front, back []T) {
	front = r.places[r.first:min(r.first+r.count, len(r.places))]
	return front, r.places[:r.count-len(front)]
}

// each goes through the things, by their numbers.
func (r *ring[T]) each() iter.Seq2[int, T] {
	return func(yield func(int, T) bool) {
		front, back := r.cut()
		for i, x := range front {
			if !yield(i, x) {
				return
			}
		}
		for i, x := range back {
			if !yield(len(front)+i, x) {
				return
			}
		}
	}
}

// at tells the thing of a number that is there.
func (r *ring[T]) at(i int) T {
	front, back := r.cut()
	if i < len(front) {
		return front[i]
	}
	return back[i-len(front)]
}

// place tells where the thing of a number stands, if there are places.
func (r *ring[T]) place(i int) int {
	return (r.first + i) % len(r.places)
}

// push puts a thing behind all others, where there are fewer than most.
func (r *ring[T]) push(x T, most int) {
	if r.count == len(r.places) {
		r.places, r.first = r.list(min(2*r.count+1, most)), 0
	}
	r.places[r.place(r.count)] = x
	r.count++
}

// drop takes out the thing of a number that is there. The things ahead of it go on by one place, not those behind it: so the first one, which is taken most, costs least. The place that is left over is cleared, for what was taken is not to be kept.
func (r *ring[T]) drop(i int) {
	var last T
	for k, x := range r.each() {
		r.places[r.place(k)], last = last, x
		if k == i {
			break
		}
	}
	r.first = r.place(1)
	r.count--
}

// twin tells another ring with the same things.
func (r *ring[T]) twin() ring[T] {
	return ring[T]{places: r.list(r.count), count: r.count}
}

// list tells the things in a new list of n places, at least as many as they are; what stands behind them is nought.
func (r *ring[T]) list(n int) []T {
	out := make([]T, n)
	for i, x := range r.each() {
		out[i] = x
	}
	return out
}
