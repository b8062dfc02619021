package swim

import (
	"cmp"
	"container/heap"
	"slices"
)

// doubt is a node that is suspected, and for how many ticks.
type doubt struct{ node, age int }

// doubts are a heap: on top is the oldest one, of those of one age the least node.
type doubts []doubt

func (d doubts) Len() int { return len(d) }

func (d doubts) Less(i, j int) bool {
	return cmp.Or(cmp.Compare(d[j].age, d[i].age), cmp.Compare(d[i].node, d[j].node)) < 0
}

func (d doubts) Swap(i, j int) { d[i], d[j] = d[j], d[i] }

func (d *doubts) Push(x any) { *d = append(*d, x.(doubt)) }

func (d *doubts) Pop() any {
	last := len(*d) - 1
	x := (*d)[last]
	*d = (*d)[:last]
	return x
}

// begin suspects a node from now on, even if it was suspected.
func (d *doubts) begin(node int) {
	d.end(node)
	heap.Push(d, doubt{node: node})
}

// end suspects a node no more.
func (d *doubts) end(node int) {
	if at := slices.IndexFunc(*d, func(x doubt) bool { return x.node == node }); at >= 0 {
		heap.Remove(d, at)
	}
}

// grow makes all a tick older, which leaves the heap one.
func (d doubts) grow() {
	for i := range d {
		d[i].age++
	}
}

// past takes out those of an age, and tells them, rising; none is older, for they are asked for at each tick.
func (d *doubts) past(age int) []int {
	var out []int
	for len(*d) > 0 && (*d)[0].age >= age {
		out = append(out, heap.Pop(d).(doubt).node)
	}
	return out
}
