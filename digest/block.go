package digest

import (
	"math/bits"

	"chartulary/api"
)

// blockSize is how many bytes a block has, lengthSize how many of the last one's tell the message's length.
const (
	blockSize  = 64
	lengthSize = 8
)

// All three are handed by value: what a block is done with stays as it was.
type (
	state    [8]uint32
	block    [blockSize]byte
	schedule [64]uint32
)

// firstState tells the first 32 bits behind the point of the square roots of the first 8 primes.
func firstState() state {
	return state{
		0x6a09e667, 0xbb67ae85, 0x3c6ef372, 0xa54ff53a, 0x510e527f, 0x9b05688c, 0x1f83d9ab, 0x5be0cd19,
	}
}

// constants tells the first 32 bits behind the point of the cube roots of the first 64 primes.
func constants() schedule {
	return schedule{
		0x428a2f98, 0x71374491, 0xb5c0fbcf, 0xe9b5dba5, 0x3956c25b, 0x59f111f1, 0x923f82a4, 0xab1c5ed5,
		0xd807aa98, 0x12835b01, 0x243185be, 0x550c7dc3, 0x72be5d74, 0x80deb1fe, 0x9bdc06a7, 0xc19bf174,
		0xe49b69c1, 0xefbe4786, 0x0fc19dc6, 0x240ca1cc, 0x2de92c6f, 0x4a7484aa, 0x5cb0a9dc, 0x76f988da,
		0x983e5152, 0xa831c66d, 0xb00327c8, 0xbf597fc7, 0xc6e00bf3, 0xd5a79147, 0x06ca6351, 0x14292967,
		0x27b70a85, 0x2e1b2138, 0x4d2c6dfc, 0x53380d13, 0x650a7354, 0x766a0abb, 0x81c2c92e, 0x92722c85,
		0xa2bfe8a1, 0xa81a664b, 0xc24b8b70, 0xc76c51a3, 0xd192e819, 0xd6990624, 0xf40e3585, 0x106aa070,
		0x19a4c116, 0x1e376c08, 0x2748774c, 0x34b0bcb5, 0x391c0cb3, 0x4ed8aa4a, 0x5b9cca4f, 0x682e6ff3,
		0x748f82ee, 0x78a5636f, 0x84c87814, 0x8cc70208, 0x90befffa, 0xa4506ceb, 0xbef9a3f7, 0xc67178f2,
	}
}

// through tells the state behind all blocks of b.
func through(s state, b []byte) state {
	k := constants()
	for i := range len(b) / blockSize {
		s = behind(s, k, block(b[i*blockSize:(i+1)*blockSize]))
	}
	return s
}

// ending tells the last block or two of a message of n bytes: rest, which fills no block, filled up.
func ending(rest []byte, n uint64) []byte {
	// A list of its own, as rest's spare room is not ours to write.
	out := append(make([]byte, 0, 2*blockSize), rest...)
	out = append(out, 128)
	for len(out)%blockSize != blockSize-lengthSize {
		out = append(out, 0)
	}
	for i := range lengthSize {
		out = append(out, byte(n*8>>(56-8*i)))
	}
	return out
}

// behind tells the state behind one block.
func behind(was state, k schedule, x block) state {
	w, s := words(x), was
	a, b, c, d, e, f, g, h := s[0], s[1], s[2], s[3], s[4], s[5], s[6], s[7]
	for t := range 64 {
		p := h + (turned(e, 6) ^ turned(e, 11) ^ turned(e, 25)) + (e&f ^ ^e&g) + k[t] + w[t]
		q := (turned(a, 2) ^ turned(a, 13) ^ turned(a, 22)) + (a&b ^ a&c ^ b&c)
		a, b, c, d, e, f, g, h = p+q, a, b, c, d+p, e, f, g
	}
	for i, n := range (state{a, b, c, d, e, f, g, h}) {
		s[i] += n
	}
	return s
}

// words tells a block's sixteen words, and the 48 that are made of them.
func words(x block) schedule {
	var w schedule
	for i, b := range x {
		w[i/4] = w[i/4]<<8 | uint32(b)
	}
	for t := 16; t < 64; t++ {
		p, q := w[t-15], w[t-2]
		w[t] = w[t-16] + (turned(p, 7) ^ turned(p, 18) ^ p>>3) + w[t-7] + (turned(q, 17) ^ turned(q, 19) ^ q>>10)
	}
	return w
}

// turned tells x with its lowest n bits on top.
func turned(x uint32, n int) uint32 {
	return bits.RotateLeft32(x, -n)
}

// tell tells a state's words as bytes, the highest first.
func tell(s state) api.ID {
	var id api.ID
	for i := range len(id) {
		id[i] = byte(s[i/4] >> (24 - 8*(i%4)))
	}
	return id
}
