package wal_test

import (
	"bytes"
	"testing"

	"quorum/api"
	"quorum/wal"
)

// The chapter's examples, by their numbers.

func TestExample1(t *testing.T) {
	h, err := wal.Header(1, 0)
	if err != nil || !bytes.Equal(h, []byte{0x51, 0x4C, 0x4F, 0x47, 1, 0, 0, 0, 0, 0, 0, 0, 1, 0, 0, 0, 0, 0xCF, 0x0E, 0x91, 0xBA}) {
		t.Errorf("Header(1, 0): % X %v", h, err)
	}
	f, err := wal.Frame(0, []byte{})
	if err != nil || !bytes.Equal(f, []byte{0, 0, 0, 0, 0, 0, 0, 0, 0x8A, 0xB2, 0x28, 0x8C, 0, 0, 0, 0}) {
		t.Errorf("Frame(0, {}): % X %v", f, err)
	}
}

func TestExample2(t *testing.T) {
	for _, c := range []struct {
		tears []api.WalTear
		want  []string
	}{
		{nil, nil},
		{[]api.WalTear{tear(1, 18, -1)}, []string{"ab"}},
		{[]api.WalTear{tear(1, 17, -1)}, nil},
		{[]api.WalTear{tear(1, 18, 100)}, nil},
	} {
		d := wal.NewDisk()
		l := opened(t, d)
		isDisk(t, "opened", d, -1, file(1, plainSegment(1, 0), ""))
		adds(t, l, "ab", 0)
		isDisk(t, "added", d, -1, file(1, plainSegment(1, 0), plainSegment(1, 0, "ab")[21:]))
		has(t, l, 1, 0)
		d.Crash(c.tears)
		opened(t, d, c.want...)
		isDisk(t, "opened again", d, -1, file(1, plainSegment(1, 0, c.want...), ""))
	}
}

// example3 gives a log as it is ahead of its Rotate.
func example3(t *testing.T) (*wal.Disk, *wal.Log) {
	t.Helper()
	d := wal.NewDisk()
	l := opened(t, d)
	adds(t, l, "ab", 0)
	syncs(t, l)
	adds(t, l, "c", 1)
	return d, l
}

func TestExample3(t *testing.T) {
	d, l := example3(t)
	rotates(t, l, "x", "y")
	isDisk(t, "behind Rotate", d, -1, file(2, plainSegment(2, 2, "x", "y"), ""))
	if n := len(d.Image().Files[0].Synced); n != 55 {
		t.Errorf("%d bytes, want 55", n)
	}
}

func TestExample4(t *testing.T) {
	for _, c := range []struct {
		tears []api.WalTear
		want  []string
		files api.DiskFile
	}{
		{[]api.WalTear{tear(2, 55, -1)}, []string{"x", "y"}, file(2, plainSegment(2, 2, "x", "y"), "")},
		{[]api.WalTear{tear(2, 54, -1)}, []string{"ab"}, file(1, plainSegment(1, 0, "ab"), "")},
		{[]api.WalTear{tear(2, 54, -1), tear(1, 17, -1)}, []string{"ab", "c"}, file(1, plainSegment(1, 0, "ab", "c"), "")},
	} {
		d, l := example3(t)
		d.Fuse(2)
		isFault(t, "Rotate", l.Rotate(bodies("x", "y")), api.ErrWalDead, 0)
		isDisk(t, "broken off", d, 0, file(1, plainSegment(1, 0, "ab"), plainSegment(1, 0, "ab", "c")[39:]), file(2, "", plainSegment(2, 2, "x", "y")))
		d.Crash(c.tears)
		opened(t, d, c.want...)
		isDisk(t, "opened again", d, -1, c.files)
	}
}

func TestExample5(t *testing.T) {
	d := disk(t, file(1, "", ""), file(2, "", ""))
	refuses(t, "two files without bytes", d, api.ErrWalCorrupt)
	d = disk(t, file(1, "abcde", ""))
	opened(t, d)
	isDisk(t, "a new log", d, -1, file(1, plainSegment(1, 0), ""))
}

func TestExample6(t *testing.T) {
	d := wal.NewDisk()
	d.Fuse(0)
	answers(t, "Create(9)", d.Create(9), api.ErrDiskDead)
	d.Fuse(3)
	isDisk(t, "dead", d, 0)
	d.Crash(nil)
	isDisk(t, "alive", d, -1)
	answers(t, "Create(9)", d.Create(9), api.OK)
	answers(t, "Cut(9, 1)", d.Cut(9, 1), api.ErrDiskLength)
}
