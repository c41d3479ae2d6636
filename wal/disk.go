package wal

import (
	"slices"

	"quorum/api"
)

// noFuse is the fuse of a disk that takes as many writes as one likes.
const noFuse = -1

// content is what a file has: the first synced of its bytes are safe, those behind them are its tail.
type content struct {
	data   []byte
	synced int
}

// Disk is files by number: what is synced, and what a crash may take.
type Disk struct {
	files map[uint64]*content // nil if neither NewDisk nor LoadDisk made the disk
	fuse  int
}

// made tells whether NewDisk or LoadDisk gave this disk.
func (d *Disk) made() bool { return d != nil && d.files != nil }

// numbers gives the numbers of all files, rising.
func (d *Disk) numbers() []uint64 {
	list := make([]uint64, 0, len(d.files))
	for number := range d.files {
		list = append(list, number)
	}
	slices.Sort(list)
	return list
}

// find gives a file that is there, or the reason why it isn't.
func (d *Disk) find(file uint64) (*content, api.Errno) {
	if file == 0 {
		return nil, api.ErrDiskZero
	}
	f, there := d.files[file]
	if !there {
		return nil, api.ErrDiskUnknown
	}
	return f, api.OK
}

// alive tells whether the disk takes a write at all.
func (d *Disk) alive() api.Errno {
	switch {
	case !d.made():
		return api.ErrZero
	case d.fuse == 0:
		return api.ErrDiskDead
	}
	return api.OK
}

// writable gives the file that a write is to change.
func (d *Disk) writable(file uint64) (*content, api.Errno) {
	if why := d.alive(); why != api.OK {
		return nil, why
	}
	return d.find(file)
}

// burn counts a write that takes effect.
func (d *Disk) burn() {
	if d.fuse > 0 {
		d.fuse--
	}
}

// Create makes an empty file (P8.2).
func (d *Disk) Create(file uint64) api.Errno {
	if why := d.alive(); why != api.OK {
		return why
	}
	_, why := d.find(file)
	switch {
	case why == api.OK:
		return api.ErrDiskTaken
	case why != api.ErrDiskUnknown:
		return why
	case len(d.files) >= api.MaxFiles:
		return api.ErrDiskFull
	}
	d.burn()
	d.files[file] = &content{}
	return api.OK
}

// Append adds bytes to a file's tail (P8.2).
func (d *Disk) Append(file uint64, data []byte) api.Errno {
	f, why := d.writable(file)
	switch {
	case why != api.OK:
		return why
	case len(data) > api.MaxFile-len(f.data):
		return api.ErrDiskFull
	}
	d.burn()
	f.data = append(f.data, data...)
	return api.OK
}

// Sync makes a file's tail safe (P8.2).
func (d *Disk) Sync(file uint64) api.Errno {
	f, why := d.writable(file)
	if why != api.OK {
		return why
	}
	d.burn()
	f.synced = len(f.data)
	return api.OK
}

// Cut shortens a file (P8.2).
func (d *Disk) Cut(file uint64, length int) api.Errno {
	f, why := d.writable(file)
	switch {
	case why != api.OK:
		return why
	case length < 0 || length > len(f.data):
		return api.ErrDiskLength
	}
	d.burn()
	f.data = f.data[:length]
	f.synced = min(f.synced, length)
	return api.OK
}

// Remove takes a file away (P8.2).
func (d *Disk) Remove(file uint64) api.Errno {
	if _, why := d.writable(file); why != api.OK {
		return why
	}
	d.burn()
	delete(d.files, file)
	return api.OK
}

// Read tells a file's bytes (P8.2).
func (d *Disk) Read(file uint64) ([]byte, api.Errno) {
	if !d.made() {
		return nil, api.ErrZero
	}
	f, why := d.find(file)
	if why != api.OK {
		return nil, why
	}
	return copied(f.data), api.OK
}

// Fuse sets how many writes the disk still takes (P8.3).
func (d *Disk) Fuse(writes int) {
	if d.alive() == api.OK {
		d.fuse = max(writes, noFuse)
	}
}

// Crash takes the tails, but for what the tears leave (P8.4).
func (d *Disk) Crash(tears []api.WalTear) {
	if !d.made() {
		return
	}
	for number, f := range d.files {
		f.crash(tearOf(number, tears))
	}
	d.fuse = noFuse
}

// tearOf gives the first tear of a file; one that keeps nothing, if there is none.
func tearOf(file uint64, tears []api.WalTear) api.WalTear {
	for _, t := range tears {
		if t.File == file {
			return t
		}
	}
	return api.WalTear{File: file}
}

// crash leaves of the tail what the tear says; that is safe from then on.
func (f *content) crash(t api.WalTear) {
	stay := min(max(t.Keep, 0), len(f.data)-f.synced)
	if t.Flip >= 0 && t.Flip/8 < stay {
		f.data[f.synced+t.Flip/8] ^= 1 << (t.Flip % 8)
	}
	f.synced += stay
	f.data = f.data[:f.synced]
}
