package journal

import (
	"iter"
	"slices"

	"chartulary/api"
	"chartulary/disk"
	"chartulary/frame"
)

// none tells whether j is nothing that Open answered.
func (j *Journal) none() bool {
	return j == nil || j.self != j
}

// there is the first step of all that change a journal: ErrNil, if it is none.
func (j *Journal) there() api.Errno {
	if j.none() {
		return api.ErrNil
	}
	return api.OK
}

// on tells the disk; of none no disk, whose calls can be named like any other's.
func (j *Journal) on() *disk.Disk {
	if j.none() {
		return nil
	}
	return j.disk
}

// each goes through the records, in order; of none, through nothing.
func (j *Journal) each() iter.Seq[[]byte] {
	return func(yield func([]byte) bool) {
		if j.none() {
			return
		}
		for _, b := range j.records {
			if !yield(b) {
				return
			}
		}
	}
}

// copied tells records as new memory.
func copied(records iter.Seq[[]byte]) [][]byte {
	var out [][]byte
	for b := range records {
		out = append(out, slices.Clone(b))
	}
	return out
}

// draft is records on their way to a disk; its methods are steps for first.
type draft struct {
	disk    *disk.Disk
	records [][]byte
	frames  []byte
}

// join makes the records' frames, one behind the other.
func (t *draft) join() (e api.Errno) {
	t.frames, e = frame.Join(t.records)
	return e
}

// lay lays the frames behind the log.
func (t *draft) lay() api.Errno {
	return t.disk.Append(t.frames)
}

// layNext lays the frames in the next area, all at once.
func (t *draft) layNext() api.Errno {
	return t.disk.Next(t.frames)
}

// first does steps one behind the other, till one fails, and tells that one's error.
func first(steps ...func() api.Errno) api.Errno {
	for _, do := range steps {
		if e := do(); e != api.OK {
			return e
		}
	}
	return api.OK
}
