package wal

import (
	"slices"

	"quorum/api"
)

// firstFile is the number of the first segment.
const firstFile = 1

// Open mends the disk behind a crash, and tells the bodies of the log (P8.7).
func Open(d *Disk) (l *Log, bodies [][]byte, err error) {
	if !d.made() {
		return nil, nil, refusal(0, api.ErrZero)
	}
	defer func() {
		if why, gaveUp := recover().(error); gaveUp {
			l, bodies, err = nil, nil, writeFault(why, api.ErrDiskDead)
		}
	}()
	file, bodies, good := d.current()
	switch {
	case file != 0:
		d.mend(file, good)
	case d.unbegun():
		d.begin()
		file = firstFile
	default:
		return nil, nil, refusal(0, api.ErrWalCorrupt)
	}
	return &Log{disk: d, file: file, count: len(bodies), safe: len(bodies)}, bodies, nil
}

// current gives the newest segment that is whole up to its base, its bodies, and how many of its bytes are whole; 0, if there is none.
func (d *Disk) current() (uint64, [][]byte, int) {
	for _, file := range slices.Backward(d.numbers()) {
		if _, bodies, good, why := Scan(file, d.files[file].data); why == api.OK {
			return file, bodies, good
		}
	}
	return 0, nil, 0
}

// unbegun tells whether no log can have been here: at most its very first header was being written.
func (d *Disk) unbegun() bool {
	f, first := d.files[firstFile]
	return len(d.files) == 0 || len(d.files) == 1 && first && len(f.data) <= headerSize
}

// begin lays down a log without bodies, in place of what was begun of it.
func (d *Disk) begin() {
	if len(d.files) > 0 {
		insist(d.Remove(firstFile))
	}
	d.lay(firstFile, nil)
}

// lay writes a new segment with that base, and makes it safe.
func (d *Disk) lay(file uint64, base [][]byte) {
	insist(d.Create(file))
	insist(d.Append(file, segment(file, base)))
	insist(d.Sync(file))
}

// mend takes away what is not whole, and all other files. The others go last: until the current one is safe an older one may be needed.
func (d *Disk) mend(file uint64, good int) {
	if len(d.files[file].data) > good {
		insist(d.Cut(file, good))
	}
	insist(d.Sync(file))
	for _, other := range d.numbers() {
		if other != file {
			insist(d.Remove(other))
		}
	}
}

// insist gives up by a panic, from however deep inside a call, if a write was refused; Open and Rotate tell it.
func insist(why api.Errno) {
	if why != api.OK {
		panic(why)
	}
}
