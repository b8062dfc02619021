package store

import (
	"chartulary/api"
	"chartulary/fact"
	"chartulary/field"
)

// shape is the shape of a record: of each of its facts the bytes.
const shape = "(b)"

// record tells the record of facts; ErrArg, if there are none, or one may not be, ErrLong, if it is too long.
func record(l []api.Fact) ([]byte, api.Errno) {
	if len(l) == 0 {
		return nil, api.ErrArg
	}
	items := []api.Item{{N: len(l)}}
	for _, f := range l {
		b, e := fact.Put(f)
		if e != api.OK {
			return nil, e
		}
		items = append(items, api.Item{B: b})
	}
	b, e := field.Put(shape, items)
	if e != api.OK {
		return nil, e
	}
	if len(b) > api.MaxNote {
		return nil, api.ErrLong
	}
	return b, api.OK
}

// records tells the records of facts, one fact a record.
func records(l []api.Fact) ([][]byte, api.Errno) {
	var out [][]byte
	for i := range l {
		b, e := record(l[i : i+1])
		if e != api.OK {
			return nil, e
		}
		out = append(out, b)
	}
	return out, api.OK
}

// factsOf tells the facts of a record; ErrCorrupt, if it is none of facts, or has none.
func factsOf(b []byte) ([]api.Fact, api.Errno) {
	items, fault := field.Get(shape, b)
	if fault.Err != api.OK || items[0].N == 0 {
		return nil, api.ErrCorrupt
	}
	var l []api.Fact
	for _, x := range items[1:] {
		f, fault := fact.Get(x.B)
		if fault.Err != api.OK {
			return nil, api.ErrCorrupt
		}
		l = append(l, f)
	}
	return l, api.OK
}

// gathered tells the facts of all records, one behind the other; ErrCorrupt, if a record is none of facts.
func gathered(records [][]byte) (l []api.Fact, e api.Errno) {
	each := func(yield func([]api.Fact) bool) {
		for _, b := range records {
			var some []api.Fact
			if some, e = factsOf(b); e != api.OK || !yield(some) {
				return
			}
		}
	}
	for some := range each {
		l = append(l, some...)
	}
	if e != api.OK {
		return nil, e
	}
	return l, api.OK
}
