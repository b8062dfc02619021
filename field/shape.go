package field

import "chartulary/api"

// What a shape is made of.
const (
	number  = 'n'
	bytes   = 'b'
	id      = 'd'
	opening = '('
	closing = ')'
)

// walk hands on a shape's letters, one by one, and ends at the first error. A group is its opening bracket, of which do tells how often the group is there, and then, so often, its letters.
func walk(shape string, do func(letter rune) (int, api.Errno)) api.Errno {
	begin, times := 0, 0
letters:
	for at, letter := range shape {
		switch {
		case letter == closing:
			if e := repeat(shape[begin:at], times, do); e != api.OK {
				return e
			}
			begin = 0
			continue letters
		case begin > 0:
			// A group's letters have their turn when all of them are known: at its end.
			continue letters
		case letter == opening:
			begin = at + 1
		}
		n, e := do(letter)
		if e != api.OK {
			return e
		}
		times = n
	}
	return api.OK
}

// repeat hands on a group's letters so many times.
func repeat(group string, times int, do func(letter rune) (int, api.Errno)) api.Errno {
	for range times {
		for _, letter := range group {
			if _, e := do(letter); e != api.OK {
				return e
			}
		}
	}
	return api.OK
}

// named tells whether an item has nothing but what its letter names.
func named(letter rune, x api.Item) bool {
	switch letter {
	case bytes:
		x.B = nil
	case id:
		x.ID = api.ID{}
	default:
		x.N = 0
	}
	return x.N == 0 && len(x.B) == 0 && x.ID == api.ID{}
}
