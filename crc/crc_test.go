package crc_test

import (
	"bytes"
	"hash/crc32"
	"math"
	"slices"
	"strconv"
	"testing"

	"chartulary/api"
	"chartulary/crc"
)

// noise tells n bytes that look like no pattern, the same ones each time.
func noise(n int, seed uint32) []byte {
	out := make([]byte, n)
	for i := range out {
		seed = seed*1664525 + 1013904223
		out[i] = byte(seed >> 24)
	}
	return out
}

// on tells the number n bits on from x, as the document's words say.
func on(x uint32, n int) uint32 {
	for range n {
		low := x & 1
		x >>= 1
		if low == 1 {
			x ^= 3988292384
		}
	}
	return x
}

// plain tells the sum of b behind sum, as the document's words say.
func plain(sum uint32, b []byte) uint32 {
	x := ^sum
	for _, c := range b {
		x = on(x^uint32(c), 8)
	}
	return ^x
}

// sums tells numbers, each bit alone among them.
func sums() []uint32 {
	out := []uint32{0, math.MaxUint32, 3988292384, 79764919, 3421780262}
	for i := range 32 {
		out = append(out, 1<<i, ^uint32(1<<i))
	}
	return out
}

// join tells what Join answers where it must answer no error.
func join(t *testing.T, a, b uint32, n int) uint32 {
	t.Helper()
	x, e := crc.Join(a, b, n)
	if e != api.OK {
		t.Fatalf("join %d %d %d: %v", a, b, n, e)
	}
	return x
}

// P2.1: the published examples.
func TestSumPublished(t *testing.T) {
	for _, x := range []struct {
		message string
		want    uint32
	}{
		{"", 0},
		{"123456789", 3421780262},
		{"a", 3904355907},
		{"\x00", 3523407757},
		{"abc", 0x352441c2},
		{"The quick brown fox jumps over the lazy dog", 0x414fa339},
		{"\xff\xff\xff\xff", 0xffffffff},
	} {
		if got := crc.Sum([]byte(x.message)); got != x.want {
			t.Errorf("%q: %d, not %d", x.message, got, x.want)
		}
	}
}

// P2.1: each byte alone, behind each of many sums: what a byte does hangs on the sum's lowest byte.
func TestMoreOfEachByte(t *testing.T) {
	for _, sum := range sums() {
		for c := range 256 {
			b := []byte{byte(c)}
			if got, want := crc.More(sum, b), plain(sum, b); got != want {
				t.Fatalf("byte %d behind %d: %d, not %d", c, sum, got, want)
			}
		}
	}
}

// P2.1: lists of each length to more than a record's greatest one, against the words, and against another CRC-32.
func TestSumOfEachLength(t *testing.T) {
	for n := range 4100 {
		for _, b := range [][]byte{noise(n, uint32(n)), make([]byte, n), bytes.Repeat([]byte{255}, n)} {
			if got, want := crc.Sum(b), crc32.ChecksumIEEE(b); got != want {
				t.Fatalf("%d bytes: %d, not %d", n, got, want)
			}
			if n < 300 && crc.Sum(b) != plain(0, b) {
				t.Fatalf("%d bytes: not what the words say", n)
			}
		}
	}
	if b := noise(1<<24+5, 3); crc.Sum(b) != crc32.ChecksumIEEE(b) {
		t.Error("a long list")
	}
}

// P2.1: any number is gone on from, a sum of something or not; nothing behind it leaves it.
func TestMoreOfAnySum(t *testing.T) {
	for _, sum := range sums() {
		if crc.More(sum, nil) != sum || crc.More(sum, []byte{}) != sum {
			t.Errorf("%d: nothing behind it changes it", sum)
		}
		for _, n := range []int{1, 2, 3, 4, 5, 100} {
			b := noise(n, sum)
			if got, want := crc.More(sum, b), crc32.Update(sum, crc32.IEEETable, b); got != want || got != plain(sum, b) {
				t.Errorf("%d bytes behind %d: %d, not %d", n, sum, got, want)
			}
		}
	}
	if got := crc.More(crc.Sum([]byte("1234")), []byte("56789")); got != 3421780262 {
		t.Error(got)
	}
}

// P2.1, and rule 4: what was handed in stays, its spare room too, which is not looked at.
func TestSumLeavesItsBytes(t *testing.T) {
	for _, n := range []int{0, 1, 4, 7, 8, 64, 100} {
		room := noise(n+50, 5)
		was := slices.Clone(room)
		first, behind := crc.Sum(room[:n]), crc.More(77, room[:n])
		if !slices.Equal(room, was) {
			t.Errorf("%d bytes: they are changed, or their spare room is", n)
		}
		for i := n; i < len(room); i++ {
			room[i] ^= 255
		}
		if crc.Sum(room[:n]) != first || crc.More(77, room[:n]) != behind {
			t.Errorf("%d bytes: the sum hangs on their spare room", n)
		}
	}
}

// P2.2: the document's examples, and nought bytes, which leave nothing to go on.
func TestJoinExamples(t *testing.T) {
	if got := join(t, crc.Sum([]byte("1234")), crc.Sum([]byte("56789")), 5); got != 3421780262 {
		t.Error(got)
	}
	if got := join(t, 7, 9, 0); got != 14 {
		t.Error(got)
	}
	for _, a := range sums() {
		for _, b := range sums() {
			if got := join(t, a, b, 0); got != a^b {
				t.Errorf("join %d %d 0: %d", a, b, got)
			}
		}
	}
}

// P2.2: lengths that no list has.
func TestJoinRefuses(t *testing.T) {
	wrong := []int{-1, -2, -8, math.MinInt32, math.MinInt}
	if strconv.IntSize == 64 {
		wide := int64(1)
		for _, x := range []int64{wide << 31, wide<<31 + 1, wide << 32, wide<<32 + 5, wide << 61, math.MaxInt64, -wide << 31, -wide << 32} {
			wrong = append(wrong, int(x))
		}
	}
	for _, n := range wrong {
		for _, a := range []uint32{0, 7, math.MaxUint32} {
			if x, e := crc.Join(a, 9, n); x != 0 || e != api.ErrArg {
				t.Errorf("join %d 9 %d: %d, %v", a, n, x, e)
			}
		}
	}
	if _, e := crc.Join(0, 0, math.MaxInt32); e != api.OK {
		t.Errorf("the greatest length: %v", e)
	}
}

// P2.2: a is gone 8 times n bits on, for each of its bits; b is taken in as it is.
func TestJoinGoesOn(t *testing.T) {
	for n := range 300 {
		for _, a := range sums() {
			if got, want := join(t, a, 0, n), on(a, 8*n); got != want {
				t.Fatalf("join %d 0 %d: %d, not %d", a, n, got, want)
			}
		}
		b := noise(4, uint32(n))
		x := uint32(b[0])<<24 | uint32(b[1])<<16 | uint32(b[2])<<8 | uint32(b[3])
		if got, want := join(t, 5, x, n), on(5, 8*n)^x; got != want {
			t.Fatalf("join 5 %d %d: %d, not %d", x, n, got, want)
		}
	}
	for _, n := range []int{1 << 16, 1<<16 - 1, 1<<17 + 3, 1000000} {
		if got, want := join(t, 12345, 0, n), on(12345, 8*n); got != want {
			t.Errorf("join 12345 0 %d: %d, not %d", n, got, want)
		}
	}
}

// P2.2: 2^32 - 1 bits on, each number is where it was: so great lengths are told by small ones.
func TestJoinOfGreatLengths(t *testing.T) {
	for _, a := range sums() {
		for i := range 8 {
			n := (i + 1) << 28 // 8n is (i + 1) times 2^31
			if i == 7 {
				n = math.MaxInt32
			}
			got := join(t, a, 0, n)
			switch {
			case i == 7: // 2^34 - 8 bits: four less than none
				if on(got, 4) != a {
					t.Errorf("join %d 0 %d: %d", a, n, got)
				}
			case i%2 == 1: // half of i + 1 bits
				if want := on(a, (i+1)/2); got != want {
					t.Errorf("join %d 0 %d: %d, not %d", a, n, got, want)
				}
			default: // so far twice: i + 1 bits
				if want := on(a, i+1); join(t, got, 0, n) != want {
					t.Errorf("join %d 0 %d, twice: not %d", a, n, want)
				}
			}
		}
	}
}

// P2.2: a way on is as long as its parts.
func TestJoinInParts(t *testing.T) {
	for _, x := range [][2]int{{0, 1}, {1, 2}, {1000, 24}, {1 << 20, 1<<20 - 1}, {1 << 30, 1<<30 - 1}, {123456789, 987654321}, {math.MaxInt32, 0}} {
		for _, a := range sums() {
			if got, want := join(t, join(t, a, 0, x[0]), 0, x[1]), join(t, a, 0, x[0]+x[1]); got != want {
				t.Errorf("%d, and %d and %d bytes: %d, not %d", a, x[0], x[1], got, want)
			}
		}
	}
}

// P2.3: pieces and joined lists have the sum of the whole, wherever it is cut.
func TestWholeOfParts(t *testing.T) {
	for _, n := range []int{0, 1, 2, 9, 64, 257, 1024} {
		b := noise(n, 11)
		whole := crc.Sum(b)
		for at := range n + 1 {
			x, y := b[:at], b[at:]
			if got := crc.More(crc.Sum(x), y); got != whole {
				t.Errorf("%d bytes cut at %d, gone on: %d, not %d", n, at, got, whole)
			}
			if got := join(t, crc.Sum(x), crc.Sum(y), len(y)); got != whole {
				t.Errorf("%d bytes cut at %d, joined: %d, not %d", n, at, got, whole)
			}
		}
	}
	x, y := noise(5000, 1), noise(1<<22+1, 2)
	if got, want := join(t, crc.Sum(x), crc.Sum(y), len(y)), crc32.ChecksumIEEE(append(x, y...)); got != want {
		t.Errorf("a long second list: %d, not %d", got, want)
	}
}

// P2.3: of lists of many parts, the parts may be joined in any order.
func TestPartsJoinedInPairs(t *testing.T) {
	b := noise(90, 4)
	x, y, z := b[:20], b[20:51], b[51:]
	left := join(t, join(t, crc.Sum(x), crc.Sum(y), len(y)), crc.Sum(z), len(z))
	right := join(t, crc.Sum(x), join(t, crc.Sum(y), crc.Sum(z), len(z)), len(y)+len(z))
	if left != crc.Sum(b) || right != crc.Sum(b) {
		t.Errorf("%d and %d, not %d", left, right, crc.Sum(b))
	}
}

// rank tells how many of l are no exclusive or of others.
func rank(l []uint32) int {
	var tops [32]uint32
	n := 0
	for _, x := range l {
		for i := 31; i >= 0 && x != 0; i-- {
			if x>>i&1 == 0 {
				continue
			}
			if tops[i] == 0 {
				tops[i], n = x, n+1
				break
			}
			x ^= tops[i]
		}
	}
	return n
}

// P2.3: what four bytes in a row change of a sum is the exclusive or of what their bits change; no bits of these 32 undo one another.
func TestUnlikeInFourBytes(t *testing.T) {
	for _, n := range []int{4, 5, 9, 40} {
		for at := range n - 3 {
			b := noise(n, uint32(n))
			was := crc.Sum(b)
			var changes []uint32
			for i := range 32 {
				b[at+i/8] ^= 1 << (i % 8)
				changes = append(changes, crc.Sum(b)^was)
				b[at+i/8] ^= 1 << (i % 8)
			}
			if rank(changes) != 32 {
				t.Errorf("%d bytes, four at %d: some changes undo one another", n, at)
			}
			for seed := range uint32(20) {
				d, want := noise(4, seed), was
				for i := range 32 {
					if d[i/8]>>(i%8)&1 == 1 {
						want ^= changes[i]
					}
				}
				c := slices.Clone(b)
				for i := range 4 {
					c[at+i] ^= d[i]
				}
				if got := crc.Sum(c); got != want || got == was {
					t.Errorf("%d bytes, four at %d: %d, not %d", n, at, got, want)
				}
			}
		}
	}
}

// P2.3: each one byte turned, and each two in a row, tell in the sum.
func TestUnlikeInTwoBytes(t *testing.T) {
	b := noise(12, 8)
	was := crc.Sum(b)
	for at := range len(b) - 1 {
		for d := 1; d < 1<<16; d++ {
			c := slices.Clone(b)
			c[at] ^= byte(d)
			c[at+1] ^= byte(d >> 8)
			if crc.Sum(c) == was {
				t.Fatalf("bytes at %d turned by %d do not tell", at, d)
			}
		}
	}
}

// P1: what is answered hangs on nothing but the arguments, whoever else asks meanwhile.
func TestSameForAllAtOnce(t *testing.T) {
	answers := make(chan [2]uint32)
	for range 8 {
		go func() {
			b := noise(500, 6)
			x, _ := crc.Join(crc.Sum(b[:200]), crc.Sum(b[200:]), 300)
			answers <- [2]uint32{crc.Sum(b), x}
		}()
	}
	want := crc32.ChecksumIEEE(noise(500, 6))
	for range 8 {
		if got := <-answers; got != [2]uint32{want, want} {
			t.Errorf("%v, not %d twice", got, want)
		}
	}
}
