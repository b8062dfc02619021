package field

import "chartulary/api"

// most is how many bytes a number has at most.
const most = 9

// reader reads items, one behind the other. Where it gives up, it is left at the fault's place.
type reader struct {
	b   []byte
	at  int
	out []api.Item
}

// get reads the next item, and tells its number: of a group, how often it is there.
func (r *reader) get(letter rune) (int, api.Errno) {
	var x api.Item
	var e api.Errno
	switch letter {
	case bytes:
		x.B, e = r.bytes()
	case id:
		e = r.fill(x.ID[:])
	case opening:
		x.N, e = r.count(api.MaxCount)
	default:
		x.N, e = r.number()
	}
	if e != api.OK {
		return 0, e
	}
	r.out = append(r.out, x)
	return x.N, api.OK
}

// number reads a number.
func (r *reader) number() (n int, e api.Errno) {
	begin := r.at
	for i := 0; ; i++ {
		if r.at == len(r.b) {
			e = api.ErrBytes
			goto end
		}
		if i == most {
			e = api.ErrForm
			goto end
		}
		x := int(r.b[r.at])
		r.at++
		n |= x % more << (bits * i)
		if x >= more {
			continue
		}
		// A number has one form alone: a last byte 0 behind others would say nothing.
		if x == 0 && i > 0 || n > api.MaxNumber {
			e = api.ErrForm
		}
		goto end
	}
end:
	if e != api.OK {
		n = 0
	}
	if e == api.ErrForm {
		r.at = begin
	}
	return n, e
}

// count reads how many of something there are: at most so many.
func (r *reader) count(top int) (int, api.Errno) {
	begin := r.at
	n, e := r.number()
	if n > top {
		r.at = begin
		return 0, api.ErrLong
	}
	return n, e
}

// bytes reads how many bytes there are, and these.
func (r *reader) bytes() ([]byte, api.Errno) {
	n, e := r.count(api.MaxString)
	if e != api.OK {
		return nil, e
	}
	b := make([]byte, n)
	return b, r.fill(b)
}

// fill reads as many bytes as there is room for.
func (r *reader) fill(room []byte) api.Errno {
	if len(r.b)-r.at < len(room) {
		r.at = len(r.b)
		return api.ErrBytes
	}
	r.at += copy(room, r.b[r.at:])
	return api.OK
}
