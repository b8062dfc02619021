package journal

import (
	"testing"

	"chartulary/api"
	"chartulary/disk"
)

// P8.2: steps are done in their order, till one fails, whose error is told.
func TestFirst(t *testing.T) {
	if e := first(); e != api.OK {
		t.Errorf("of no steps: %v", e)
	}
	const steps = 4
	for bad := range steps + 1 {
		for worse := bad; worse < steps+1; worse++ {
			var done []int
			var l []func() api.Errno
			for i := range steps {
				l = append(l, func() api.Errno {
					done = append(done, i)
					switch i {
					case bad:
						return api.ErrFull
					case worse:
						return api.ErrBroken
					}
					return api.OK
				})
			}
			want, n := api.ErrFull, bad+1
			if bad == steps {
				want, n = api.OK, steps
			}
			if e := first(l...); e != want || len(done) != n {
				t.Errorf("bad %d: %v, not %v; done %v", bad, e, want, done)
			}
			for i, step := range done {
				if i != step {
					t.Errorf("bad %d: done %v", bad, done)
				}
			}
		}
	}
}

// P8.3: records can be left at any of them, and are the same when they are gone through again.
func TestEach(t *testing.T) {
	d, _ := disk.New(100)
	j, _ := Open(d)
	for _, b := range []string{"a", "b", "c"} {
		j.Append([]byte(b))
	}
	all := j.each()
	for most := range 4 {
		n := 0
		for b := range all {
			if n == most {
				break
			}
			if string(b) != string(rune('a'+n)) {
				t.Errorf("record %d is %q", n, b)
			}
			n++
		}
		if n != most {
			t.Errorf("%d records, not %d", n, most)
		}
	}
}
