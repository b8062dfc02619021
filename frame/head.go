package frame

import (
	"iter"

	"chartulary/crc"
)

// headSize is how many bytes a head has, lengthSize how many of them are the length; the others are the check sum.
const (
	headSize   = 8
	lengthSize = 4
)

// head is what stands ahead of a record in its frame.
type head [headSize]byte

// headOf tells the head that a record has to have.
func headOf(record []byte) head {
	var h head
	lay(h[:lengthSize], uint32(len(record)))
	lay(h[lengthSize:], crc.Sum(record))
	return h
}

// length tells how many bytes a head says that its record has.
func (h head) length() int {
	n := 0
	for i, c := range h[:lengthSize] {
		n |= int(c) << (8 * i)
	}
	return n
}

// lay lays a number's bytes into room, the lowest first.
func lay(room []byte, n uint32) {
	for i := range room {
		room[i] = byte(n >> (8 * i))
	}
}

// pieces goes through b by the lengths that its heads tell, as long as there may be such a record and all of it is there. It asks for no check sum: behind a record that has not its head's, lengths mean nothing, so whoever goes through them leaves there.
func pieces(b []byte) iter.Seq2[head, []byte] {
	return func(yield func(head, []byte) bool) {
		for rest := b; len(rest) >= headSize; {
			h := head(rest[:headSize])
			size := Size(h.length())
			if size == 0 || size > len(rest) || !yield(h, rest[headSize:size]) {
				return
			}
			rest = rest[size:]
		}
	}
}
