// Package digest is layer 1: the digest of bytes, by which a blob is named, and what is told of one: see shared/doc/01-digest.md.
package digest

import "chartulary/api"

// digits are those of texts, each at the place of its number.
const digits = "0123456789abcdef"

// Sum tells the digest of bytes.
func Sum(b []byte) api.ID {
	whole := len(b) - len(b)%blockSize
	s := through(firstState(), b[:whole])
	return tell(through(s, ending(b[whole:], uint64(len(b)))))
}

// Text tells the text of a digest: two digits a byte, the higher half first.
func Text(id api.ID) string {
	var out [2 * len(id)]byte
	for i, x := range id {
		out[2*i], out[2*i+1] = digits[x>>4], digits[x&15]
	}
	return string(out[:])
}

// Get tells the digest of a text; ErrForm, if it is the text of none.
func Get(s string) (api.ID, api.Errno) {
	var id api.ID
	if len(s) != 2*len(id) {
		return api.ID{}, api.ErrForm
	}
	numbers := digitNumbers()
	for i := range len(s) {
		n, is := numbers[s[i]]
		if !is {
			return api.ID{}, api.ErrForm
		}
		id[i/2] = id[i/2]<<4 | n
	}
	return id, api.OK
}

// digitNumbers tells of each digit which number it is.
func digitNumbers() map[byte]byte {
	out := map[byte]byte{}
	for i := range len(digits) {
		out[digits[i]] = byte(i)
	}
	return out
}

// Less tells whether the first byte in which two digests are unlike is less in a.
func Less(a, b api.ID) bool {
	if a == b {
		return false
	}
	i := 0
	for a[i] == b[i] {
		i++
	}
	return a[i] < b[i]
}

// Weigh tells the number of a digest's first eight bytes, the highest first.
func Weigh(id api.ID) uint64 {
	n := uint64(0)
	for i := range 8 {
		n = n<<8 | uint64(id[i])
	}
	return n
}
