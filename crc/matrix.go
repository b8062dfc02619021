package crc

// matrix is a way of going on, by columns: what comes of each bit alone. What comes of a number is the exclusive or of its bits' columns.
type matrix [32]uint32

// bytesOn tells the number 8 times n bits on from x, in as many squarings as n has bits.
func bytesOn(x uint32, n int) uint32 {
	for m := byteMatrix(); n > 0; n >>= 1 {
		if n&1 == 1 {
			x = times(m, x)
		}
		m = squared(m)
	}
	return x
}

// byteMatrix tells the matrix that goes eight bits on.
func byteMatrix() matrix {
	var out matrix
	for i := range 32 {
		out[i] = byteOn(1 << i)
	}
	return out
}

// times tells what comes of x by m.
func times(m matrix, x uint32) uint32 {
	out := uint32(0)
	for i, column := range m {
		if x>>i&1 == 1 {
			out ^= column
		}
	}
	return out
}

// squared tells the matrix that goes on by m twice.
func squared(m matrix) matrix {
	var out matrix
	for i, column := range m {
		out[i] = times(m, column)
	}
	return out
}
