package crc

// polynomial is what a number takes in when a bit 1 drops out of it.
const polynomial = 0xedb88320

// bitOn tells the number one bit on from x.
func bitOn(x uint32) uint32 {
	if x&1 == 1 {
		return x>>1 ^ polynomial
	}
	return x >> 1
}

// byteOn tells the number eight bits on from x.
func byteOn(x uint32) uint32 {
	for range 8 {
		x = bitOn(x)
	}
	return x
}

// byteTable tells of each byte the number eight bits on from it.
func byteTable() [256]uint32 {
	var out [256]uint32
	for i := range 256 {
		// To go on and exclusive or may change places: going on from the eight single bits is enough, so that a short list's sum isn't mostly the making of its table.
		low := i & -i
		if i == low {
			out[i] = byteOn(uint32(i))
		} else {
			out[i] = out[low] ^ out[i-low]
		}
	}
	return out
}
