package frame

import (
	"bytes"
	"testing"
)

// P4.2: pieces go by lengths alone, can be left at any of them, and are the same when they are gone through again.
func TestPieces(t *testing.T) {
	l := [][]byte{[]byte("a"), []byte("bc"), []byte("def")}
	b, _ := Join(l)
	b[4] ^= 1
	all := pieces(append(b, 9, 9, 9))
	for most := range len(l) + 1 {
		n := 0
		for h, record := range all {
			if n == most {
				break
			}
			if !bytes.Equal(record, l[n]) || (h == headOf(record)) != (n > 0) {
				t.Errorf("piece %d: %v, %v", n, h, record)
			}
			n++
		}
		if n != most {
			t.Errorf("%d pieces, not %d", n, most)
		}
	}
}

// P4.1: a head's length is read as it was laid, at its least and at its greatest.
func TestLength(t *testing.T) {
	for _, n := range []int{0, 1, 255, 256, 4000, 4001, 1 << 16, 1 << 24, 1 << 31, 1<<32 - 1} {
		var h head
		lay(h[:lengthSize], uint32(n))
		if got := h.length(); got != n {
			t.Errorf("%d, not %d", got, n)
		}
	}
}
