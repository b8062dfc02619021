package frame_test

import (
	"bytes"
	"encoding/binary"
	"hash/crc32"
	"math"
	"math/rand"
	"slices"
	"testing"

	"chartulary/api"
	"chartulary/frame"
)

// noise tells n bytes that look like no pattern, the same ones each time.
func noise(n int, seed uint32) []byte {
	out := make([]byte, n)
	for i := range out {
		seed = seed*1664525 + 1013904223
		out[i] = byte(seed >> 24)
	}
	return out
}

// headed tells bytes behind a head that says just that length and that sum.
func headed(length, sum uint32, b []byte) []byte {
	out := binary.LittleEndian.AppendUint32(nil, length)
	return append(binary.LittleEndian.AppendUint32(out, sum), b...)
}

// plain tells the frame of a record, as the document's words say; or what would be one, if a record could be so long.
func plain(b []byte) []byte {
	return headed(uint32(len(b)), crc32.ChecksumIEEE(b), b)
}

// plains tells the frames of records.
func plains(l ...[]byte) []byte {
	var out []byte
	for _, b := range l {
		out = append(out, plain(b)...)
	}
	return out
}

// stands tells whether at the beginning of b stands a frame, as the document's words say, and how many bytes its record has.
func stands(b []byte) (int, bool) {
	if len(b) < 8 {
		return 0, false
	}
	n := uint64(binary.LittleEndian.Uint32(b))
	if n < 1 || n > 4000 || n > uint64(len(b)-8) {
		return 0, false
	}
	return int(n), crc32.ChecksumIEEE(b[8:8+n]) == binary.LittleEndian.Uint32(b[4:])
}

// plainSplit tells what Split has to tell, as the document's words say.
func plainSplit(b []byte) ([][]byte, int) {
	var out [][]byte
	at := 0
	for {
		n, is := stands(b[at:])
		if !is {
			return out, at
		}
		out = append(out, b[at+8:at+8+n])
		at += 8 + n
	}
}

// same tells whether two lists have the same records.
func same(x, y [][]byte) bool {
	return slices.EqualFunc(x, y, bytes.Equal)
}

// put tells what Put answers where it must answer no error.
func put(t *testing.T, b []byte) []byte {
	t.Helper()
	out, e := frame.Put(b)
	if e != api.OK {
		t.Fatalf("put %d bytes: %v", len(b), e)
	}
	return out
}

// join tells what Join answers where it must answer no error.
func join(t *testing.T, l ...[]byte) []byte {
	t.Helper()
	out, e := frame.Join(l)
	if e != api.OK {
		t.Fatalf("join %d records: %v", len(l), e)
	}
	return out
}

// holds asks that b is split into l, up to end.
func holds(t *testing.T, what string, b []byte, l [][]byte, end int) {
	t.Helper()
	if got, at := frame.Split(b); !same(got, l) || at != end {
		t.Errorf("%s: %d records up to %d, not %d up to %d", what, len(got), at, len(l), end)
	}
}

// some are records of some kinds: short and long ones, noughts, and what is itself a frame, or looks like the beginning of one.
func some() [][]byte {
	return [][]byte{[]byte("a"), {0}, noise(300, 1), plain([]byte("b")), make([]byte, 20), {1, 0, 0}, noise(4000, 2), plains([]byte("c"), []byte("dd")), {255, 255, 255, 255}, noise(9, 3)}
}

// P4.1: the document's examples.
func TestPutExamples(t *testing.T) {
	if got := put(t, []byte("a")); !bytes.Equal(got, []byte{1, 0, 0, 0, 67, 190, 183, 232, 97}) {
		t.Error(got)
	}
	for _, x := range [][2]int{{1, 9}, {0, 0}, {4000, 4008}} {
		if got := frame.Size(x[0]); got != x[1] {
			t.Errorf("size %d: %d, not %d", x[0], got, x[1])
		}
	}
}

// P4.1: records of all lengths; Size tells how long their frames are.
func TestPutEachLength(t *testing.T) {
	for n := 1; n <= 4000; n++ {
		for _, b := range [][]byte{noise(n, uint32(n)), make([]byte, n), bytes.Repeat([]byte{255}, n)} {
			got := put(t, b)
			if !bytes.Equal(got, plain(b)) {
				t.Fatalf("%d bytes: not their frame", n)
			}
			if size := frame.Size(n); size != len(got) || size != n+8 {
				t.Fatalf("size %d: %d, not %d", n, size, len(got))
			}
		}
	}
}

// P4.1: what is no record, alone and among others.
func TestPutRefuses(t *testing.T) {
	for _, x := range []struct {
		b    []byte
		want api.Errno
	}{
		{nil, api.ErrArg}, {[]byte{}, api.ErrArg}, {[]byte("spare room")[:0], api.ErrArg}, {make([]byte, 0, 5000), api.ErrArg},
		{make([]byte, 4001), api.ErrLong}, {noise(4001, 1), api.ErrLong}, {make([]byte, 4008), api.ErrLong}, {make([]byte, 1<<16), api.ErrLong}, {make([]byte, 1<<16+1), api.ErrLong}, {make([]byte, 1<<24), api.ErrLong},
	} {
		if out, e := frame.Put(x.b); out != nil || e != x.want {
			t.Errorf("put %d bytes: %d bytes, %v, not %v", len(x.b), len(out), e, x.want)
		}
		for _, l := range [][][]byte{{x.b}, {[]byte("a"), x.b}, {x.b, []byte("a")}, {noise(4000, 1), x.b, noise(4000, 2)}} {
			if out, e := frame.Join(l); out != nil || e != x.want {
				t.Errorf("join, with %d bytes: %d bytes, %v, not %v", len(x.b), len(out), e, x.want)
			}
		}
	}
}

// P4.1: no record has such a length.
func TestSizeOfNone(t *testing.T) {
	for _, n := range []int{0, -1, -7, -8, -9, -4000, math.MinInt32, math.MinInt, 4001, 4008, 1 << 16, 1<<16 + 1, 1 << 32, 1<<32 + 1, math.MaxInt32, math.MaxInt - 8, math.MaxInt - 7, math.MaxInt} {
		if got := frame.Size(n); got != 0 {
			t.Errorf("size %d: %d", n, got)
		}
	}
}

// P4.1: the frames of all, one behind the other, in their order; of none, none.
func TestJoin(t *testing.T) {
	for _, l := range [][][]byte{nil, {}} {
		if out, e := frame.Join(l); len(out) != 0 || e != api.OK {
			t.Errorf("none: %v, %v", out, e)
		}
	}
	l := some()
	for from := range l {
		for to := range len(l) - from + 1 {
			part := l[from : from+to]
			var want []byte
			for _, b := range part {
				want = append(want, put(t, b)...)
			}
			if got := join(t, part...); !bytes.Equal(got, want) || !bytes.Equal(got, plains(part...)) {
				t.Fatalf("records %d to %d: not their frames", from, from+to)
			}
		}
	}
	many := make([][]byte, 50000)
	for i := range many {
		many[i] = []byte{byte(i), byte(i >> 8)}
	}
	if got := join(t, many...); !bytes.Equal(got, plains(many...)) {
		t.Error("many records: not their frames")
	}
}

// P4.1: of errors the first one, by the records' order.
func TestJoinTellsTheFirstError(t *testing.T) {
	none, long, a := []byte{}, make([]byte, 4001), []byte("a")
	for _, x := range []struct {
		l    [][]byte
		want api.Errno
	}{
		{[][]byte{none, long}, api.ErrArg}, {[][]byte{long, none}, api.ErrLong}, {[][]byte{a, nil, long}, api.ErrArg}, {[][]byte{a, long, nil}, api.ErrLong},
		{[][]byte{a, a, none, a, long}, api.ErrArg}, {[][]byte{a, long, a, none, a}, api.ErrLong}, {[][]byte{none, none}, api.ErrArg}, {[][]byte{long, long}, api.ErrLong},
	} {
		if out, e := frame.Join(x.l); out != nil || e != x.want {
			t.Errorf("%d bytes, %v, not %v", len(out), e, x.want)
		}
	}
}

// P4.2: the document's examples.
func TestSplitExamples(t *testing.T) {
	a := []byte{1, 0, 0, 0, 67, 190, 183, 232, 97}
	holds(t, "a frame, and 1 0 0", append(slices.Clone(a), 1, 0, 0), [][]byte{[]byte("a")}, 9)
	holds(t, "eight noughts", make([]byte, 8), nil, 0)
	holds(t, "nothing", nil, nil, 0)
	holds(t, "nothing, but not nil", []byte{}, nil, 0)
	holds(t, "another last byte", append(slices.Clone(a[:8]), 98), nil, 0)
	holds(t, "a frame alone", a, [][]byte{[]byte("a")}, 9)
}

// P4.2: where no frame stands nothing is told, whatever stands behind it; ahead of it all is.
func TestSplitStopsWhereNoFrameStands(t *testing.T) {
	b, good := noise(300, 5), plain([]byte("good"))
	sum := crc32.ChecksumIEEE(b)
	for what, x := range map[string][]byte{
		"a length of 0, with the sum of nothing":    headed(0, 0, nil),
		"a length of 0, with a sum":                 headed(0, sum, b),
		"a length of 4,001, all there":              plain(noise(4001, 6)),
		"a length of 5,000, all there":              plain(noise(5000, 6)),
		"a length of 2^16, all there":               plain(noise(1<<16, 6)),
		"a length of 2^16 and 300":                  headed(1<<16+300, sum, b),
		"a length of 2^24 and 300":                  headed(1<<24+300, sum, b),
		"a length of 2^31":                          headed(1<<31, sum, b),
		"a length of 2^31 and 300":                  headed(1<<31+300, sum, b),
		"a length of 2^32 - 1":                      headed(math.MaxUint32, sum, b),
		"a length of 2^32 - 8":                      headed(math.MaxUint32-7, sum, b),
		"a length of 2^31 - 1":                      headed(math.MaxInt32, sum, b),
		"a length of one byte less":                 headed(299, sum, b),
		"a length of one byte more":                 headed(301, sum, b),
		"a length whose highest byte comes first":   append([]byte{0, 0, 1, 44}, plain(b)[4:]...),
		"a sum whose highest byte comes first":      append(binary.BigEndian.AppendUint32([]byte{44, 1, 0, 0}, sum), b...),
		"a sum all of whose bits are turned":        headed(300, ^sum, b),
		"the sum of other bytes":                    headed(300, crc32.ChecksumIEEE(b[1:]), b),
		"the sum of the length, too":                headed(300, crc32.ChecksumIEEE(append([]byte{44, 1, 0, 0}, b...)), b),
		"the sum ahead of the length":               append(binary.LittleEndian.AppendUint32(nil, sum), append([]byte{44, 1, 0, 0}, b...)...),
		"a sum of noughts":                          headed(300, 0, b),
		"another CRC-32's sum":                      headed(300, crc32.Checksum(b, crc32.MakeTable(crc32.Castagnoli)), b),
		"a frame one byte behind":                   append([]byte{7}, good...),
		"a nought, and a frame":                     append([]byte{0}, good...),
		"a frame without its first byte":            good[1:],
		"a frame without its last byte":             good[:len(good)-1],
		"a frame's first byte":                      good[:1],
		"a frame's first seven bytes":               good[:7],
		"a frame's head":                            good[:8],
		"a frame's head and one byte of its record": good[:9],
		"noise": noise(100, 9),
	} {
		holds(t, what, x, nil, 0)
		before := append(slices.Clone(x), good...)
		holds(t, what+", ahead of a frame", before, nil, 0)
		for _, l := range [][][]byte{{[]byte("a")}, {noise(4000, 1)}, some()} {
			ahead := plains(l...)
			holds(t, what+", behind frames", append(slices.Clone(ahead), x...), l, len(ahead))
			holds(t, what+", between frames", append(slices.Clone(ahead), before...), l, len(ahead))
		}
	}
}

// P4.2: a head of each short length, with fewer, just so many or more bytes behind it, and the sum of some first ones of these.
func TestSplitShortHeads(t *testing.T) {
	for length := range 12 {
		for there := range 12 {
			b := noise(there, uint32(length))
			for cut := range there + 1 {
				x := headed(uint32(length), crc32.ChecksumIEEE(b[:cut]), b)
				want, end := plainSplit(x)
				holds(t, "a short head", x, want, end)
				if is := length == cut && length > 0; is != (end > 0) {
					t.Errorf("length %d, sum of %d, %d there: up to %d", length, cut, there, end)
				}
			}
		}
	}
}

// P4.2: against another reader: what was joined, and then turned, cut, lengthened, or with a piece taken out, laid in or doubled.
func TestSplitAgainstTheWords(t *testing.T) {
	r := rand.New(rand.NewSource(4))
	for range 20000 {
		var b []byte
		for range r.Intn(5) {
			n := 1 + r.Intn(12)
			if r.Intn(20) == 0 {
				n = 3990 + r.Intn(20)
			}
			b = append(b, plain(noise(n, r.Uint32()))...)
		}
		for range r.Intn(3) {
			at := r.Intn(len(b) + 1)
			to := at + r.Intn(min(len(b)-at, 30)+1)
			switch r.Intn(5) {
			case 0:
				if at < len(b) {
					b[at] ^= 1 << r.Intn(8)
				}
			case 1:
				b = b[:at]
			case 2:
				b = slices.Delete(b, at, to)
			case 3:
				b = slices.Insert(b, at, noise(r.Intn(10), r.Uint32())...)
			case 4:
				b = slices.Insert(b, at, slices.Clone(b[at:to])...)
			}
		}
		want, end := plainSplit(b)
		if got, at := frame.Split(b); !same(got, want) || at != end {
			t.Fatalf("%v: %v up to %d, not %v up to %d", b, got, at, want, end)
		}
	}
}

// P4.3: what is joined is split as it was.
func TestJoinedIsSplit(t *testing.T) {
	l := some()
	for from := range l {
		for to := range len(l) - from + 1 {
			b := join(t, l[from:from+to]...)
			holds(t, "joined", b, l[from:from+to], len(b))
		}
	}
	for n := 1; n <= 4000; n++ {
		b := noise(n, uint32(n))
		holds(t, "put", put(t, b), [][]byte{b}, n+8)
	}
	many := make([][]byte, 100000)
	for i := range many {
		many[i] = []byte{byte(i)}
	}
	holds(t, "many", join(t, many...), many, 900000)
}

// P4.3: what is split is joined as it was, up to the place that is told.
func TestSplitIsJoined(t *testing.T) {
	b := plains(some()...)
	for _, behind := range [][]byte{nil, {1, 0, 0}, make([]byte, 8), noise(50, 1)} {
		whole := append(slices.Clone(b), behind...)
		l, end := frame.Split(whole)
		if got := join(t, l...); end != len(b) || !bytes.Equal(got, whole[:end]) {
			t.Errorf("%d bytes behind: up to %d, not %d, or not the same frames", len(behind), end, len(b))
		}
		holds(t, "from the place on", whole[end:], nil, 0)
	}
}

// begins tells how many of l have frames that are whole within the first n bytes, and where the next one begins.
func begins(l [][]byte, n int) (int, int) {
	at := 0
	for i, b := range l {
		if at+8+len(b) > n {
			return i, at
		}
		at += 8 + len(b)
	}
	return len(l), at
}

// P4.3: cut anywhere, the records ahead of that are told, and the place where the frame that was cut begins.
func TestCutAnywhere(t *testing.T) {
	l := some()
	b := join(t, l...)
	for n := range len(b) + 1 {
		if n > 700 && n < 4300 && n%37 != 0 { // the long record's inner bytes
			continue
		}
		count, end := begins(l, n)
		holds(t, "cut", b[:n], l[:count], end)
	}
}

// P4.3: with a byte of a record, or of a check sum, turned in any way, the records ahead of it are told, and the place where its frame begins.
func TestAnyByteTurned(t *testing.T) {
	l := [][]byte{[]byte("a"), {0, 0, 0}, noise(40, 1), {255}, plain([]byte("b"))}
	b := join(t, l...)
	for at := range b {
		count, end := begins(l, at+1)
		if at < end+4 { // a byte of a length: no promise of its own
			continue
		}
		for d := 1; d < 256; d++ {
			b[at] ^= byte(d)
			holds(t, "turned", b, l[:count], end)
			b[at] ^= byte(d)
		}
	}
	long := [][]byte{noise(4000, 1), noise(4000, 2)}
	b = join(t, long...)
	for at := 4012; at < len(b); at++ {
		b[at] ^= byte(at%255 + 1)
		holds(t, "turned", b, long[:1], 4008)
		b[at] ^= byte(at%255 + 1)
	}
}

// P4.2: with a byte of a length turned no frame stands there: of these records none has the sum of fewer of its bytes, or of more.
func TestAnyByteOfALengthTurned(t *testing.T) {
	l := [][]byte{[]byte("a"), noise(40, 1), noise(300, 2), []byte("d")}
	b := join(t, l...)
	for i := range l {
		_, begin := begins(l[:i], len(b))
		for at := begin; at < begin+4; at++ {
			for d := 1; d < 256; d++ {
				b[at] ^= byte(d)
				holds(t, "length turned", b, l[:i], begin)
				b[at] ^= byte(d)
			}
		}
	}
}

// Rule 4: what was handed in stays, its spare room too, which is not looked at.
func TestArgumentsStay(t *testing.T) {
	for _, n := range []int{0, 1, 7, 8, 9, 40, 4000} {
		room := noise(n+100, 3)
		was := slices.Clone(room)
		first, e := frame.Put(room[:n])
		joined, _ := frame.Join([][]byte{room[:n], room[:n]})
		if !bytes.Equal(room, was) {
			t.Errorf("%d bytes: they are changed, or their spare room is", n)
		}
		for i := n; i < len(room); i++ {
			room[i] ^= 255
		}
		again, e2 := frame.Put(room[:n])
		joined2, _ := frame.Join([][]byte{room[:n], room[:n]})
		if !bytes.Equal(first, again) || !bytes.Equal(joined, joined2) || e != e2 {
			t.Errorf("%d bytes: their frame hangs on their spare room", n)
		}
	}
	l := append(make([][]byte, 0, 4), []byte("a"), []byte("b"), nil, make([]byte, 4001))
	if got := join(t, l[:2]...); !bytes.Equal(got, plains(l[:2]...)) || l[2] != nil || len(l[3]) != 4001 {
		t.Error("the list's spare room is looked at, or changed")
	}
}

// Rule 4: bytes that are split stay; the rest of a frame in their spare room is not there.
func TestSplitLeavesItsBytes(t *testing.T) {
	l := [][]byte{noise(30, 1), noise(50, 2)}
	b := join(t, l...)
	was := slices.Clone(b)
	for n := range len(b) + 1 {
		count, end := begins(l, n)
		holds(t, "with spare room", b[:n], l[:count], end)
		if !bytes.Equal(b, was) {
			t.Fatalf("%d bytes: they are changed, or their spare room is", n)
		}
	}
}

// wipe turns all bytes of b, its spare room too.
func wipe(b []byte) {
	b = b[:cap(b)]
	for i := range b {
		b[i] ^= 255
	}
}

// Rule 4: answers are new memory, their spare room too, and no two lists of one share any.
func TestAnswersAreNew(t *testing.T) {
	for _, n := range []int{1, 2, 7, 8, 24, 25, 4000} {
		room := noise(n+60, 3)
		was, b := slices.Clone(room), room[:n]
		wipe(put(t, b))
		wipe(join(t, b))
		wipe(join(t, b, b, b))
		if !bytes.Equal(room, was) || !bytes.Equal(put(t, b), plain(b)) {
			t.Errorf("%d bytes: the frame shares memory", n)
		}
	}
	l := some()
	b := join(t, l...)
	was := slices.Clone(b)
	records, _ := frame.Split(b)
	for i, x := range records {
		wipe(x)
		if !bytes.Equal(b, was) {
			t.Fatalf("the record %d shares memory with what was split", i)
		}
		if !same(records[i+1:], l[i+1:]) {
			t.Fatalf("the record %d shares memory with another one", i)
		}
	}
	kept, _ := frame.Split(b)
	wipe(b)
	if !same(kept, l) {
		t.Error("records hang on what was split")
	}
	record := []byte("record")
	one := put(t, record)
	wipe(record)
	if !bytes.Equal(one, plain([]byte("record"))) {
		t.Error("a frame hangs on its record")
	}
}
