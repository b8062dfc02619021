package digest

import (
	"math/big"
	"testing"
)

// primes tells the first n primes.
func primes(n int) []int64 {
	var out []int64
	for x := int64(2); len(out) < n; x++ {
		if big.NewInt(x).ProbablyPrime(0) {
			out = append(out, x)
		}
	}
	return out
}

// rootBits tells the first 32 bits behind the point of the n-th root of x.
func rootBits(x int64, n int) uint32 {
	scaled := new(big.Int).Lsh(big.NewInt(x), uint(32*n))
	low, high := big.NewInt(0), new(big.Int).Lsh(big.NewInt(1), 40)
	for new(big.Int).Sub(high, low).Cmp(big.NewInt(1)) > 0 {
		mid := new(big.Int).Rsh(new(big.Int).Add(low, high), 1)
		if new(big.Int).Exp(mid, big.NewInt(int64(n)), nil).Cmp(scaled) > 0 {
			high = mid
		} else {
			low = mid
		}
	}
	return uint32(low.Uint64())
}

// P1.1: the constants and the first state are what the roots of primes come to.
func TestConstants(t *testing.T) {
	var k schedule
	for i, x := range primes(len(k)) {
		k[i] = rootBits(x, 3)
	}
	if k != constants() {
		t.Errorf("%x, not %x", constants(), k)
	}
	var s state
	for i, x := range primes(len(s)) {
		s[i] = rootBits(x, 2)
	}
	if s != firstState() {
		t.Errorf("%x, not %x", firstState(), s)
	}
}

// P1.1: a message is filled up by as few noughts as make it whole blocks.
func TestEnding(t *testing.T) {
	for n := range blockSize {
		b := ending(make([]byte, n), uint64(n))
		want := blockSize
		if n > blockSize-lengthSize-1 {
			want = 2 * blockSize
		}
		if len(b) != want || b[n] != 128 || int(b[len(b)-2])<<8+int(b[len(b)-1]) != 8*n {
			t.Errorf("%d bytes: %v", n, b)
		}
	}
	// No message of 2^61 - 1 bytes can be laid in a test: its length alone can.
	b := ending(nil, 1<<61-1)
	for i, x := range b[len(b)-lengthSize:] {
		want := byte(255)
		if i == lengthSize-1 {
			want = 248
		}
		if x != want {
			t.Errorf("byte %d of the length is %d", i, x)
		}
	}
}
