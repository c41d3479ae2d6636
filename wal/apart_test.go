package wal_test

import (
	"bytes"
	"testing"

	"quorum/api"
	"quorum/wal"
)

// scribble writes over a list and the spare room behind its end.
func scribble(b []byte) {
	b = b[:cap(b)]
	for i := range b {
		b[i] ^= 0xa5
	}
}

// roomy gives bytes with spare room behind them, and the whole of it.
func roomy(s string) (b, all []byte) {
	all = []byte(s + "spare room")
	return all[:len(s)], all
}

func TestP8_14WhatIsHandedIn(t *testing.T) {
	d := disk(t, file(2, "", ""))
	b, all := roomy("abc")
	answers(t, "Append", d.Append(2, b), api.OK)
	answers(t, "Append", d.Append(2, b), api.OK)
	if string(all) != "abcspare room" {
		t.Errorf("Append changes what it is given: %q", all)
	}
	scribble(b)
	isDisk(t, "Append keeps what it is given", d, -1, file(2, "", "abcabc"))

	synced, all1 := roomy("abc")
	tail, all2 := roomy("de")
	img := api.DiskImage{Files: make([]api.DiskFile, 0, 9), Fuse: -1}
	img.Files = append(img.Files, api.DiskFile{Number: 1, Synced: synced, Tail: tail})
	d = loaded(t, img)
	answers(t, "Append", d.Append(1, []byte("xyz")), api.OK)
	d.Crash([]api.WalTear{tear(1, 9, 0)})
	if string(all1) != "abcspare room" || string(all2) != "despare room" {
		t.Errorf("LoadDisk shares what it is given: %q %q", all1, all2)
	}
	scribble(synced)
	scribble(tail)
	img.Files[0] = api.DiskFile{}
	isDisk(t, "LoadDisk keeps what it is given", d, -1, file(1, "abceexyz", ""))

	tears := []api.WalTear{tear(1, 2, 3), tear(1, 1, 1)}
	d.Crash(tears)
	if !same(tears, []api.WalTear{tear(1, 2, 3), tear(1, 1, 1)}) {
		t.Errorf("Crash changes its tears: %v", tears)
	}
}

func TestP8_14WhatALogIsGiven(t *testing.T) {
	d := wal.NewDisk()
	l := opened(t, d)
	b, all := roomy("abc")
	for i := range 2 {
		if at, err := l.Append(b); at != i || err != nil {
			t.Errorf("Append: %d %v", at, err)
		}
	}
	frame, err := wal.Frame(1, b)
	if err != nil || string(all) != "abcspare room" {
		t.Errorf("Append or Frame changes what it is given: %q", all)
	}
	scribble(b)
	if !bytes.Equal(frame, plainFrame(1, []byte("abc"))) {
		t.Error("Frame keeps what it is given")
	}
	isDisk(t, "Append keeps what it is given", d, -1, file(1, plainSegment(1, 0), plainSegment(1, 0, "abc", "abc")[21:]))

	b, all = roomy("abc")
	base := append(make([][]byte, 0, 9), b, b[1:], nil)
	if err := l.Rotate(base); err != nil || !same(base, bodies("abc", "bc", "")) || string(all) != "abcspare room" {
		t.Errorf("Rotate changes what it is given: %v %q %q", err, base, all)
	}
	scribble(b)
	base[0] = nil
	isDisk(t, "Rotate keeps what it is given", d, -1, file(2, plainSegment(2, 3, "abc", "bc", ""), ""))
}

// Whatever is done to one answer, no other list of it, no other answer and no object turns.
func TestP8_14WhatIsHandedOut(t *testing.T) {
	files := []api.DiskFile{file(1, plainSegment(1, 0, "ab", "", "cd"), "tail"), file(2, "sy", "nc")}
	d := disk(t, files...)
	img, other := d.Image(), d.Image()
	lists := [][]byte{img.Files[0].Synced, img.Files[0].Tail, img.Files[1].Synced, img.Files[1].Tail}
	for i, b := range lists {
		var was []string
		for _, c := range lists {
			was = append(was, string(c))
		}
		scribble(b)
		for k, c := range lists {
			if k != i && string(c) != was[k] {
				t.Errorf("lists %d and %d of an image share memory", i, k)
			}
		}
	}
	img.Files[:cap(img.Files)][0] = api.DiskFile{}
	if !same(other, image(-1, files...)) {
		t.Error("two images share memory")
	}
	isDisk(t, "Image shares the disk's memory", d, -1, files...)

	b, _ := d.Read(1)
	c, _ := d.Read(1)
	scribble(b)
	if string(c) != string(files[0].Synced)+"tail" {
		t.Error("two Reads share memory")
	}
	isDisk(t, "Read shares the disk's memory", d, -1, files...)
}

// bodiesApart wants bodies to share no memory with one another.
func bodiesApart(t *testing.T, what string, l [][]byte, want ...string) {
	t.Helper()
	for i := range l {
		scribble(l[i])
		for k := i + 1; k < len(l); k++ {
			if string(l[k]) != want[k] {
				t.Errorf("%s: the bodies %d and %d share memory", what, i, k)
			}
		}
	}
}

func TestP8_14Bodies(t *testing.T) {
	want := []string{"ab", "c", "", "defgh", "i"}
	data := []byte(plainSegment(3, 1, want...))
	whole := bytes.Clone(data)
	_, l, _, _ := wal.Scan(3, data)
	_, kept, _, _ := wal.Scan(3, data)
	bodiesApart(t, "Scan", l, want...)
	if !bytes.Equal(data, whole) {
		t.Error("Scan shares the bytes that it was given")
	}
	scribble(data)
	if !same(kept, bodies(want...)) {
		t.Errorf("Scan keeps the bytes that it was given: %q", kept)
	}

	d := disk(t, file(3, string(whole), ""))
	_, l, err := wal.Open(d)
	if err != nil {
		t.Fatal(err)
	}
	bodiesApart(t, "Open", l, want...)
	isDisk(t, "Open shares the disk's memory", d, -1, file(3, string(whole), ""))

	h, _ := wal.Header(1, 0)
	scribble(h)
	if h, _ := wal.Header(1, 0); !bytes.Equal(h, plainHeader(1, 0)) {
		t.Error("two Headers share memory")
	}
}

// Faults are new each time: writing one over changes none that is told later.
func TestP8_14Faults(t *testing.T) {
	_, err := wal.Header(0, 0)
	*err.(*api.Fault) = api.Fault{}
	_, err = wal.Header(0, 0)
	isFault(t, "Header", err, api.ErrArg, 0)
}

func TestADiskThatNoCallGave(t *testing.T) {
	var none *wal.Disk
	for what, d := range map[string]*wal.Disk{"nil": none, "plain": {}} {
		for range 2 {
			d.Fuse(3)
			for _, name := range writeNames {
				for _, number := range []uint64{0, 1} {
					answers(t, what+" "+name, do(d, write{name: name, number: number, length: -1}), api.ErrZero)
				}
			}
			for _, number := range []uint64{0, 1} {
				if b, why := d.Read(number); b != nil || why != api.ErrZero {
					t.Errorf("%s: Read: %q %d", what, b, why)
				}
			}
			if img := d.Image(); !same(img, api.DiskImage{}) {
				t.Errorf("%s: Image: %v", what, img)
			}
			refuses(t, what, d, api.ErrZero)
			d.Crash([]api.WalTear{tear(1, 1, 1)})
			d.Crash(nil)
			d.Fuse(-1)
		}
	}
}

func TestALogThatOpenDidNotGive(t *testing.T) {
	var none *wal.Log
	for what, l := range map[string]*wal.Log{"nil": none, "plain": {}} {
		for _, body := range [][]byte{nil, []byte("a"), make([]byte, 60001)} {
			addsNot(t, what, l, body, api.ErrZero)
		}
		isFault(t, what, l.Sync(), api.ErrZero, 0)
		isFault(t, what, l.Rotate(nil), api.ErrZero, 0)
		isFault(t, what, l.Rotate(make([][]byte, 65)), api.ErrZero, 0)
		isFault(t, what, l.Rotate([][]byte{nil, make([]byte, 60001)}), api.ErrZero, 0)
		has(t, l, 0, 0)
	}
}

// Whatever is done beneath a log, no call panics, and a write that the disk refuses for another reason than death is told with that reason.
func TestALogWhoseFileIsGone(t *testing.T) {
	d := wal.NewDisk()
	l := opened(t, d)
	adds(t, l, "a", 0)
	answers(t, "Remove", d.Remove(1), api.OK)
	addsNot(t, "Append", l, []byte("b"), api.ErrDiskUnknown)
	isFault(t, "Sync", l.Sync(), api.ErrDiskUnknown, 0)
	isFault(t, "Rotate", l.Rotate(nil), api.ErrDiskUnknown, 0)
	isFault(t, "Rotate", l.Rotate(nil), api.ErrDiskTaken, 0)
	has(t, l, 1, 0)
}
