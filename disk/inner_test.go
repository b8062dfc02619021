package disk

import (
	"testing"

	"chartulary/api"
)

// P7.2: a step is handed its bytes, and whether the disk is out from it on; a fuse is one less by each, and none stays none.
func TestStep(t *testing.T) {
	d, _ := New(9)
	for fuse := noFuse; fuse < 5; fuse++ {
		d.Wipe()
		d.fuse = fuse
		for i := range 7 {
			if d.out {
				break
			}
			given, told, calls := []byte{byte(i)}, false, 0
			e := d.step(func(b []byte, out bool) {
				calls++
				told = out
				if len(b) != 1 || &b[0] != &given[0] {
					t.Fatalf("fuse %d, step %d: handed %v", fuse, i, b)
				}
			}, given)
			if want := i == fuse; calls != 1 || told != want || d.out != want || (e == api.ErrBroken) != want || (e == api.OK) == want {
				t.Fatalf("fuse %d, step %d: %d calls, told %v, out %v, %v", fuse, i, calls, told, d.out, e)
			}
		}
		if fuse == noFuse && (d.out || d.fuse != noFuse) {
			t.Fatalf("no fuse: out %v, fuse %d", d.out, d.fuse)
		}
	}
}

// Nothing is kept of what is gone: behind a Switch, a Crash and a Wipe the next area has no memory, and behind a Wipe the log has none.
func TestGoneIsNotKept(t *testing.T) {
	for name, end := range map[string]func(*Disk) api.Errno{"switch": (*Disk).Switch, "crash": func(d *Disk) api.Errno { return d.Crash(1) }, "wipe": (*Disk).Wipe} {
		d, _ := New(9)
		if d.Append([]byte("ab")) != api.OK || d.Next([]byte("cd")) != api.OK || end(d) != api.OK {
			t.Fatal(name)
		}
		if d.nextArea.bytes != nil {
			t.Errorf("%s: next area %q", name, d.nextArea.bytes)
		}
		if name == "wipe" && (d.logArea.bytes != nil || d.firm != 0) {
			t.Errorf("%s: log %q", name, d.logArea.bytes)
		}
	}
}
