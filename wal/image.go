package wal

import "quorum/api"

// NewDisk gives an empty disk (P8.1).
func NewDisk() *Disk {
	return &Disk{files: map[uint64]*content{}, fuse: noFuse}
}

// LoadDisk gives the disk of that image (P8.1).
func LoadDisk(img api.DiskImage) (*Disk, error) {
	if err := imageFault(img.Files); err != nil {
		return nil, err
	}
	d := NewDisk()
	for _, f := range img.Files {
		data := make([]byte, 0, len(f.Synced)+len(f.Tail))
		data = append(data, f.Synced...)
		data = append(data, f.Tail...)
		d.files[f.Number] = &content{data: data, synced: len(f.Synced)}
	}
	d.fuse = max(img.Fuse, noFuse)
	return d, nil
}

// imageFault refuses files that no disk has.
func imageFault(files []api.DiskFile) error {
	if len(files) > api.MaxFiles {
		return refusal(0, api.ErrDiskFull)
	}
	for at, f := range files {
		switch {
		case f.Number == 0:
			return refusal(at, api.ErrDiskZero)
		case at > 0 && f.Number <= files[at-1].Number:
			return refusal(at, api.ErrImage)
		case len(f.Tail) > api.MaxFile-len(f.Synced): // no sum that might not fit
			return refusal(at, api.ErrDiskFull)
		}
	}
	return nil
}

// Image tells the disk as plain data (P8.1).
func (d *Disk) Image() api.DiskImage {
	if !d.made() {
		return api.DiskImage{}
	}
	img := api.DiskImage{Fuse: d.fuse}
	for _, number := range d.numbers() {
		f := d.files[number]
		img.Files = append(img.Files, api.DiskFile{
			Number: number,
			Synced: copied(f.data[:f.synced]),
			Tail:   copied(f.data[f.synced:]),
		})
	}
	return img
}
