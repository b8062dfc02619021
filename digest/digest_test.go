package digest_test

import (
	"bytes"
	"crypto/sha256"
	"encoding/hex"
	"slices"
	"strings"
	"testing"

	"chartulary/api"
	"chartulary/digest"
)

// noise tells n bytes that look like no pattern, the same ones each time.
func noise(n int, seed uint32) []byte {
	out := make([]byte, n)
	for i := range out {
		seed = seed*1664525 + 1013904223
		out[i] = byte(seed >> 24)
	}
	return out
}

// with tells a digest of noughts, but one byte.
func with(at int, x byte) api.ID {
	var id api.ID
	id[at] = x
	return id
}

// ids tells digests of which some are nearly alike.
func ids() []api.ID {
	out := []api.ID{{}}
	for i := range 32 {
		for _, x := range []byte{1, 127, 128, 255} {
			out = append(out, with(i, x))
		}
	}
	for n := range 40 {
		out = append(out, digest.Sum(noise(n, 7)))
	}
	full := api.ID{}
	for i := range full {
		full[i] = 255
		out = append(out, full)
	}
	return out
}

// P1.1: the published examples.
func TestSumPublished(t *testing.T) {
	for _, x := range []struct{ message, want string }{
		{"", "e3b0c44298fc1c149afbf4c8996fb92427ae41e4649b934ca495991b7852b855"},
		{"abc", "ba7816bf8f01cfea414140de5dae2223b00361a396177a9cb410ff61f20015ad"},
		{"abcdbcdecdefdefgefghfghighijhijkijkljklmklmnlmnomnopnopq", "248d6a61d20638b8e5c026930c3e6039a33ce45964ff2167f6ecedd419db06c1"},
		{"abcdefghbcdefghicdefghijdefghijkefghijklfghijklmghijklmnhijklmnoijklmnopjklmnopqklmnopqrlmnopqrsmnopqrstnopqrstu", "cf5b16a778af8380036ce59e7b0492370b249b11e8f07a51afac45037afee9d1"},
		{strings.Repeat("a", 1000000), "cdc76e5c9914fb9281a1c7e284d73e67f1809a48a497200e046d39ccc7112cd0"},
	} {
		if got := digest.Sum([]byte(x.message)); hex.EncodeToString(got[:]) != x.want {
			t.Errorf("%d bytes: %x, not %s", len(x.message), got, x.want)
		}
	}
}

// P1.1: all the ways in which a message ends within its block, and a blob's greatest length.
func TestSumOfEachLength(t *testing.T) {
	for n := range 1100 {
		for _, b := range [][]byte{noise(n, uint32(n)), make([]byte, n), bytes.Repeat([]byte{255}, n)} {
			if got, want := digest.Sum(b), api.ID(sha256.Sum256(b)); got != want {
				t.Fatalf("%d bytes: %x, not %x", n, got, want)
			}
		}
	}
}

// P1.1: the length is told in more than two bytes, and in more than four.
func TestSumOfLongMessages(t *testing.T) {
	for _, n := range []int{1<<13 - 1, 1 << 13, 1<<21 - 1, 1 << 21, 1<<29 + 3} {
		if n > 1<<21 && testing.Short() {
			continue
		}
		b := make([]byte, n)
		copy(b, noise(min(n, 5000), 3))
		if got, want := digest.Sum(b), api.ID(sha256.Sum256(b)); got != want {
			t.Errorf("%d bytes: %x, not %x", n, got, want)
		}
	}
}

// P1.1, and rule 4: nil and empty are the same; what was handed in stays, its spare room too, which is not looked at.
func TestSumLeavesItsBytes(t *testing.T) {
	if digest.Sum(nil) != digest.Sum([]byte{}) {
		t.Error("nil is not as empty")
	}
	for _, n := range []int{0, 1, 55, 56, 63, 64, 65, 128} {
		room := noise(n+200, 5)
		was := slices.Clone(room)
		first := digest.Sum(room[:n])
		if !slices.Equal(room, was) {
			t.Errorf("%d bytes: they are changed, or their spare room is", n)
		}
		for i := n; i < len(room); i++ {
			room[i] ^= 255
		}
		if digest.Sum(room[:n]) != first {
			t.Errorf("%d bytes: the digest hangs on their spare room", n)
		}
	}
}

// P1.2: a text has two digits a byte, the higher half first.
func TestText(t *testing.T) {
	for i := range 256 {
		id := api.ID{byte(i), 31: byte(255 - i)}
		if got, want := digest.Text(id), hex.EncodeToString(id[:]); got != want {
			t.Errorf("%s, not %s", got, want)
		}
	}
	if got := digest.Text(api.ID{0: 0x1e, 1: 0xa0, 31: 0x09}); got != "1ea0"+strings.Repeat("0", 58)+"09" {
		t.Error(got)
	}
}

// P1.2: each byte, at each place, is a digit, or makes a text of none.
func TestGetEachByte(t *testing.T) {
	text := strings.Repeat("0", 64)
	for at := range 64 {
		for c := range 256 {
			s := text[:at] + string([]byte{byte(c)}) + text[at+1:]
			n := strings.IndexByte("0123456789abcdef", byte(c))
			id, e := digest.Get(s)
			if n < 0 && (e != api.ErrForm || id != api.ID{}) {
				t.Errorf("byte %d at %d: %x, %v", c, at, id, e)
			}
			want := with(at/2, byte(max(n, 0)<<(4-4*(at%2))))
			if n >= 0 && (e != api.OK || id != want) {
				t.Errorf("digit %d at %d: %x, %v", c, at, id, e)
			}
		}
	}
}

// P1.2: texts of no digest: of other lengths, of large letters, of letters of more bytes than one.
func TestGetRefuses(t *testing.T) {
	good := digest.Text(digest.Sum([]byte("abc")))
	for n := range 200 {
		if id, e := digest.Get(strings.Repeat("7", n)); n != 64 && (e != api.ErrForm || id != api.ID{}) {
			t.Errorf("%d digits: %x, %v", n, id, e)
		}
	}
	for _, s := range []string{
		"abc", good + "0", "0" + good, good[:63], good[1:], good + good, " " + good[1:], good[:63] + " ", good + "\n",
		strings.ToUpper(good), "0x" + good[2:], "-" + good[1:], "+" + good[1:], good[:31] + "_" + good[32:],
		strings.Repeat("é", 32), strings.Repeat("١", 32), strings.Repeat("\x00", 64), strings.Repeat("\xff", 64),
	} {
		if id, e := digest.Get(s); e != api.ErrForm || id != (api.ID{}) {
			t.Errorf("%q: %x, %v", s, id, e)
		}
	}
}

// P1.3: the first byte in which two are unlike decides, whatever comes behind it.
func TestLess(t *testing.T) {
	for at := range 32 {
		a, b := digest.Sum([]byte("a")), digest.Sum([]byte("a"))
		a[at], b[at] = 127, 128
		for i := at + 1; i < 32; i++ {
			a[i], b[i] = 255, 0
		}
		if !digest.Less(a, b) || digest.Less(b, a) {
			t.Errorf("byte %d does not decide", at)
		}
		if digest.Less(a, a) {
			t.Errorf("%x is less than itself", a)
		}
	}
	if !digest.Less(digest.Sum([]byte("abc")), digest.Sum(nil)) {
		t.Error("abc's is not less than nothing's")
	}
}

// P1.3: a weight is of the first eight bytes alone, the highest first.
func TestWeigh(t *testing.T) {
	for at := range 32 {
		want := uint64(0)
		if at < 8 {
			want = 200 << (56 - 8*at)
		}
		if got := digest.Weigh(with(at, 200)); got != want {
			t.Errorf("byte %d: %d, not %d", at, got, want)
		}
	}
	if got := digest.Weigh(api.ID{7: 5}); got != 5 {
		t.Error(got)
	}
	if got := digest.Weigh(api.ID{255, 255, 255, 255, 255, 255, 255, 255, 9}); got != 1<<64-1 {
		t.Error(got)
	}
	if got := digest.Weigh(api.ID{1, 2, 3, 4, 5, 6, 7, 8, 9}); got != 0x0102030405060708 {
		t.Errorf("%x", got)
	}
}

// P1.4: a text is got as it was put.
func TestTextIsGot(t *testing.T) {
	for _, id := range ids() {
		s := digest.Text(id)
		got, e := digest.Get(s)
		if got != id || e != api.OK || digest.Text(got) != s {
			t.Errorf("%s: %x, %v", s, got, e)
		}
	}
}

// P1.4: ids are in one order, which is that of their texts; who is less weighs no more.
func TestOneOrder(t *testing.T) {
	l := ids()
	for _, a := range l {
		for _, b := range l {
			less := digest.Less(a, b)
			if less != (strings.Compare(digest.Text(a), digest.Text(b)) < 0) {
				t.Errorf("%x and %x: less is %v", a, b, less)
			}
			if less && digest.Weigh(a) > digest.Weigh(b) {
				t.Errorf("%x weighs more than %x", a, b)
			}
			if a != b && less == digest.Less(b, a) {
				t.Errorf("%x and %x are in no order", a, b)
			}
		}
	}
}
