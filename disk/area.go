package disk

// area is bytes that were laid one behind the other.
type area struct {
	bytes []byte
}

// logArea is a disk's log: its first bytes are firm, the others loose.
type logArea struct {
	area
	firm int
}

// nextArea is what may take the log's place.
type nextArea struct {
	area
}

// lay lays bytes behind the others, even if the disk goes out meanwhile: what is loose may be there or not.
func (a *area) lay(b []byte, _ bool) {
	a.bytes = append(a.bytes, b...)
}

// sync makes all of the log firm; a disk that is out has not come to it.
func (l *logArea) sync(_ []byte, out bool) {
	if !out {
		l.firm = len(l.bytes)
	}
}

// keep leaves the first so many of the loose bytes, and makes them firm.
func (l *logArea) keep(kept int) {
	l.firm += min(kept, len(l.bytes)-l.firm)
	l.bytes = l.bytes[:l.firm]
}

// firmLog tells a log of these bytes, all of it firm.
func firmLog(b []byte) logArea {
	return logArea{area: area{bytes: b}, firm: len(b)}
}
