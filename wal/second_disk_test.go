package wal_test

import (
	"slices"

	"quorum/api"
)

// cell is a byte of a file, and whether a crash can't take it.
type cell struct {
	value byte
	safe  bool
}

type plainFile struct {
	number uint64
	cells  []cell
}

// plainDisk is a second disk: a list of files in the order in which they came, byte by byte. left counts the writes that it still takes, if fused.
type plainDisk struct {
	files []*plainFile
	fused bool
	left  int
}

func plainOf(img api.DiskImage) *plainDisk {
	p := &plainDisk{fused: img.Fuse >= 0, left: img.Fuse}
	for _, f := range img.Files {
		q := &plainFile{number: f.Number}
		for _, b := range f.Synced {
			q.cells = append(q.cells, cell{b, true})
		}
		for _, b := range f.Tail {
			q.cells = append(q.cells, cell{b, false})
		}
		p.files = append(p.files, q)
	}
	return p
}

func (p *plainDisk) image() api.DiskImage {
	img := api.DiskImage{Fuse: -1}
	if p.fused {
		img.Fuse = p.left
	}
	for _, q := range p.files {
		f := api.DiskFile{Number: q.number}
		for _, c := range q.cells {
			if c.safe {
				f.Synced = append(f.Synced, c.value)
			} else {
				f.Tail = append(f.Tail, c.value)
			}
		}
		img.Files = append(img.Files, f)
	}
	slices.SortFunc(img.Files, func(a, b api.DiskFile) int {
		if a.Number < b.Number {
			return -1
		}
		return 1
	})
	return img
}

func (p *plainDisk) file(number uint64) *plainFile {
	for _, q := range p.files {
		if q.number == number {
			return q
		}
	}
	return nil
}

func (q *plainFile) bytes() string {
	var b []byte
	for _, c := range q.cells {
		b = append(b, c.value)
	}
	return string(b)
}

// write is a write with all that it may be given.
type write struct {
	name   string
	number uint64
	data   string
	length int
}

// do carries a write out as P8.2 says.
func (p *plainDisk) do(w write) api.Errno {
	if p.fused && p.left == 0 {
		return 160
	}
	if w.number == 0 {
		return 161
	}
	q := p.file(w.number)
	if w.name == "Create" && q != nil {
		return 162
	}
	if w.name != "Create" && q == nil {
		return 163
	}
	switch w.name {
	case "Create":
		if len(p.files) == 64 {
			return 164
		}
		p.files = append(p.files, &plainFile{number: w.number})
	case "Append":
		for _, b := range []byte(w.data) {
			q.cells = append(q.cells, cell{b, false})
		}
	case "Sync":
		for i := range q.cells {
			q.cells[i].safe = true
		}
	case "Cut":
		if w.length < 0 || w.length > len(q.cells) {
			return 165
		}
		for len(q.cells) > w.length {
			q.cells = q.cells[:len(q.cells)-1]
		}
	case "Remove":
		p.files = slices.DeleteFunc(p.files, func(f *plainFile) bool { return f == q })
	}
	if p.fused {
		p.left--
	}
	return 0
}

func (p *plainDisk) fuse(writes int) {
	if p.fused && p.left == 0 {
		return
	}
	p.fused, p.left = writes >= 0, writes
}

// crash goes through each tail byte by byte.
func (p *plainDisk) crash(tears []api.WalTear) {
	for _, q := range p.files {
		keep, flip := 0, -1
		for _, t := range slices.Backward(tears) {
			if t.File == q.number {
				keep, flip = t.Keep, t.Flip
			}
		}
		var stay []cell
		kept := 0
		for _, c := range q.cells {
			if !c.safe && kept >= keep {
				break
			}
			if !c.safe {
				for bit := range 8 {
					if flip == 8*kept+bit {
						c.value ^= byte(1) << bit
					}
				}
				kept++
			}
			stay = append(stay, cell{c.value, true})
		}
		q.cells = stay
	}
	p.fused = false
}
