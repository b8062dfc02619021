package gossip

import (
	"slices"
	"sort"
)

// line is things in the order that less tells, the least one ahead, whenever they were put.
type line[T any] struct {
	things []T
	less   func(a, b T) bool
}

// put puts a thing behind all that are not greater.
func (l *line[T]) put(x T) {
	at := sort.Search(len(l.things), func(i int) bool { return l.less(x, l.things[i]) })
	l.things = slices.Insert(l.things, at, x)
}

// cut takes out the things from a place on, up to another one, so many as there are.
func (l *line[T]) cut(from, to int) []T {
	to = min(to, len(l.things))
	if from >= to {
		return nil
	}
	out := slices.Clone(l.things[from:to])
	l.things = slices.Delete(l.things, from, to)
	return out
}

// find tells where the first such thing stands; -1, if there is none.
func (l *line[T]) find(such func(T) bool) int {
	return slices.IndexFunc(l.things, such)
}
