package wal_test

import (
	"bytes"
	"errors"
	"reflect"
	"testing"

	"quorum/api"
	"quorum/wal"
)

// isFault wants a fault of this layer with just that number and place.
func isFault(t *testing.T, what string, err error, why api.Errno, at int) {
	t.Helper()
	f, ok := err.(*api.Fault)
	if !ok || f == nil {
		t.Errorf("%s: %v is no fault, want %d at %d", what, err, why, at)
		return
	}
	if f.Layer != "wal" || f.At != at || f.Err != error(why) || !errors.Is(err, why) {
		t.Errorf("%s: refused with %v, want %d at %d", what, err, why, at)
	}
}

// answers wants a write to answer that.
func answers(t *testing.T, what string, got, want api.Errno) {
	t.Helper()
	if got != want {
		t.Errorf("%s: %d, want %d", what, got, want)
	}
}

// same tells whether two things are the same, nil being another thing than empty.
func same(a, b any) bool { return reflect.DeepEqual(a, b) }

// file is a file as an image has it; what has no bytes is nil.
func file(number uint64, synced, tail string) api.DiskFile {
	return api.DiskFile{Number: number, Synced: list(synced), Tail: list(tail)}
}

// list gives the bytes of a text, and nil for none.
func list(s string) []byte {
	if s == "" {
		return nil
	}
	return []byte(s)
}

// bodies gives the bodies of these texts as a log tells them.
func bodies(texts ...string) [][]byte {
	var l [][]byte
	for _, s := range texts {
		l = append(l, list(s))
	}
	return l
}

func image(fuse int, files ...api.DiskFile) api.DiskImage {
	return api.DiskImage{Files: files, Fuse: fuse}
}

// loaded gives the disk of an image that is in order.
func loaded(t testing.TB, img api.DiskImage) *wal.Disk {
	t.Helper()
	d, err := wal.LoadDisk(img)
	if d == nil || err != nil {
		t.Fatalf("LoadDisk: %v", err)
	}
	return d
}

// disk gives a disk without a fuse.
func disk(t testing.TB, files ...api.DiskFile) *wal.Disk {
	t.Helper()
	return loaded(t, image(-1, files...))
}

// isDisk wants a disk to be just that.
func isDisk(t *testing.T, what string, d *wal.Disk, fuse int, files ...api.DiskFile) {
	t.Helper()
	if got, want := d.Image(), image(fuse, files...); !same(got, want) {
		t.Errorf("%s: the disk is\n%v, want\n%v", what, got, want)
	}
}

// twin gives an image of the same things that shares no memory with the first.
func twin(img api.DiskImage) api.DiskImage {
	files := img.Files
	img.Files = nil
	for _, f := range files {
		img.Files = append(img.Files, api.DiskFile{Number: f.Number, Synced: bytes.Clone(f.Synced), Tail: bytes.Clone(f.Tail)})
	}
	return img
}

// opened opens a disk that has a log with just these bodies.
func opened(t testing.TB, d *wal.Disk, want ...string) *wal.Log {
	t.Helper()
	l, got, err := wal.Open(d)
	if l == nil || err != nil {
		t.Fatalf("Open: %v", err)
	}
	if !same(got, bodies(want...)) {
		t.Errorf("Open tells %q, want %q", got, want)
	}
	has(t, l, len(want), len(want))
	return l
}

// refuses wants Open to refuse a disk so.
func refuses(t *testing.T, what string, d *wal.Disk, why api.Errno) {
	t.Helper()
	l, got, err := wal.Open(d)
	isFault(t, what, err, why, 0)
	if l != nil || got != nil {
		t.Errorf("%s: %v and %q beside a refusal", what, l, got)
	}
}

// has wants a log to tell these numbers.
func has(t testing.TB, l *wal.Log, many, safe int) {
	t.Helper()
	if l.Len() != many || l.Safe() != safe {
		t.Errorf("Len %d and Safe %d, want %d and %d", l.Len(), l.Safe(), many, safe)
	}
}

// adds wants a body to be added at that place.
func adds(t testing.TB, l *wal.Log, body string, at int) {
	t.Helper()
	if got, err := l.Append([]byte(body)); got != at || err != nil {
		t.Errorf("Append(%q): %d %v, want %d", body, got, err, at)
	}
}

// addsNot wants a body to be refused so, and the log to tell what it told.
func addsNot(t *testing.T, what string, l *wal.Log, body []byte, why api.Errno) {
	t.Helper()
	many, safe := l.Len(), l.Safe()
	at, err := l.Append(body)
	isFault(t, what, err, why, 0)
	if at != 0 {
		t.Errorf("%s: place %d beside a refusal", what, at)
	}
	has(t, l, many, safe)
}

func syncs(t testing.TB, l *wal.Log) {
	t.Helper()
	if err := l.Sync(); err != nil {
		t.Errorf("Sync: %v", err)
	}
}

func rotates(t testing.TB, l *wal.Log, base ...string) {
	t.Helper()
	if err := l.Rotate(bodies(base...)); err != nil {
		t.Errorf("Rotate(%q): %v", base, err)
	}
	has(t, l, len(base), len(base))
}

// isBroken wants a log to refuse all that it is given, to write nothing, and to tell these numbers.
func isBroken(t *testing.T, what string, l *wal.Log, d *wal.Disk, many, safe int) {
	t.Helper()
	was := d.Image()
	addsNot(t, what+": Append", l, []byte("more"), api.ErrWalDead)
	addsNot(t, what+": Append", l, make([]byte, api.MaxBody+1), api.ErrWalDead)
	isFault(t, what+": Sync", l.Sync(), api.ErrWalDead, 0)
	isFault(t, what+": Rotate", l.Rotate(nil), api.ErrWalDead, 0)
	isFault(t, what+": Rotate", l.Rotate(make([][]byte, api.MaxBase+1)), api.ErrWalDead, 0)
	isFault(t, what+": Rotate", l.Rotate([][]byte{nil, make([]byte, api.MaxBody+1)}), api.ErrWalDead, 0)
	has(t, l, many, safe)
	if is := d.Image(); !same(is, was) {
		t.Errorf("%s: a broken log has written:\n%v, was\n%v", what, is, was)
	}
}

func tear(number uint64, keep, flip int) api.WalTear {
	return api.WalTear{File: number, Keep: keep, Flip: flip}
}

// dice gives numbers that look like any, the same ones in every run.
type dice struct{ state uint64 }

func (d *dice) next() uint64 {
	d.state = d.state*6364136223846793005 + 1442695040888963407
	return d.state ^ d.state>>29
}

// below gives a number from 0 to n-1.
func (d *dice) below(n int) int { return int(d.next() >> 3 % uint64(n)) }

func one[E any](d *dice, list ...E) E { return list[d.below(len(list))] }

// text gives a text of any bytes, shorter than most.
func (d *dice) text(most int) string {
	b := make([]byte, d.below(most))
	for i := range b {
		b[i] = byte(d.next() >> 7)
	}
	return string(b)
}
