package disk

import "chartulary/api"

// step counts a step, which is done by what is handed to it: that gets the bytes, and whether the disk is out from this step on.
func (d *Disk) step(do func(b []byte, out bool), b []byte) api.Errno {
	d.steps++
	d.burn()
	do(b, d.out)
	if d.out {
		return api.ErrBroken
	}
	return api.OK
}

// burn makes a fuse one less, and puts the disk out where none of it is left.
func (d *Disk) burn() {
	if d.fuse == 0 {
		d.out = true
	}
	if d.fuse > 0 {
		d.fuse--
	}
}

// barred tells why a disk does nothing, whatever is asked: there is none, or it is out.
func (d *Disk) barred() api.Errno {
	if d.none() {
		return api.ErrNil
	}
	if d.out {
		return api.ErrBroken
	}
	return api.OK
}

// crowded tells why n more bytes can't be laid.
func (d *Disk) crowded(n int) api.Errno {
	if e := d.barred(); e != api.OK {
		return e
	}
	if len(d.logArea.bytes)+len(d.nextArea.bytes)+n > d.room {
		return api.ErrFull
	}
	return api.OK
}

// turn puts the next area in the log's place; a disk that is out has not come to it.
func (d *Disk) turn(_ []byte, out bool) {
	if !out {
		d.logArea = firmLog(d.nextArea.bytes)
		d.nextArea = nextArea{}
	}
}

// rise has the disk up again, with no fuse, and nothing in the next area.
func (d *Disk) rise() {
	d.nextArea = nextArea{}
	d.fuse = noFuse
	d.out = false
}
