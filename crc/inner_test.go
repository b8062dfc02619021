package crc

import "testing"

// P2.1: the table has of each byte its eight bits.
func TestByteTable(t *testing.T) {
	for i, x := range byteTable() {
		if want := byteOn(uint32(i)); x != want {
			t.Errorf("byte %d: %d, not %d", i, x, want)
		}
	}
}

// P2.2: a matrix does what going on does, and its square does it twice; neither is changed.
func TestMatrix(t *testing.T) {
	m := byteMatrix()
	was := m
	twice := squared(m)
	for _, x := range []uint32{0, 1, 2, 255, 1 << 31, 0xdeadbeef, polynomial, ^uint32(0)} {
		if got, want := times(m, x), byteOn(x); got != want {
			t.Errorf("%d: %d, not %d", x, got, want)
		}
		if got, want := times(twice, x), byteOn(byteOn(x)); got != want {
			t.Errorf("%d, twice: %d, not %d", x, got, want)
		}
	}
	if m != was {
		t.Error("squaring changed the matrix")
	}
}
