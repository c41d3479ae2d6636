package wal_test

import (
	"strconv"
	"strings"
	"testing"

	"quorum/api"
	"quorum/wal"
)

// half is a segment of which the base was not written to its end.
func half(number uint64) string { return plainSegment(number, 2, "x", "y")[:50] }

func TestP8_7ANewLog(t *testing.T) {
	begun := file(1, plainSegment(1, 0), "")
	for what, files := range map[string][]api.DiskFile{
		"no file":                      nil,
		"file 1 without bytes":         {file(1, "", "")},
		"file 1 with a part":           {file(1, plainSegment(1, 0)[:9], "")},
		"file 1 with 20 bytes":         {file(1, plainSegment(1, 0)[:20], "")},
		"file 1 with 20 bytes, tail":   {file(1, "", plainSegment(1, 0)[:20])},
		"file 1 with 21 other bytes":   {file(1, strings.Repeat("z", 21), "")},
		"21 bytes, the last in a tail": {file(1, strings.Repeat("z", 20), "z")},
		"file 1 with a missed base":    {file(1, plainSegment(1, 1), "")},
		"a header of file 2":           {file(1, plainSegment(2, 0), "")},
	} {
		d := disk(t, files...)
		opened(t, d)
		isDisk(t, what, d, -1, begun)
	}
}

func TestP8_7Corrupt(t *testing.T) {
	for what, files := range map[string][]api.DiskFile{
		"two files without bytes":      {file(1, "", ""), file(2, "", "")},
		"file 2 without bytes":         {file(2, "", "")},
		"file 2 with a part":           {file(2, plainSegment(2, 0)[:20], "")},
		"file 1 with 22 bytes":         {file(1, strings.Repeat("z", 22), "")},
		"22 bytes, the last in a tail": {file(1, strings.Repeat("z", 21), "z")},
		"a missed base and a byte":     {file(1, plainSegment(1, 1), "\x00")},
		"a half base in file 1":        {file(1, half(1), "")},
		"a half base in file 2":        {file(2, half(2), "")},
		"half bases, an empty file 1":  {file(1, "", ""), file(3, half(3), "")},
		"a number too high":            {file(1<<62+1, string(plainHeader(1<<62+1, 0)), "")},
		"number 1 and one too high":    {file(1, "", ""), file(most, "", "")},
		"the header of another file":   {file(3, plainSegment(4, 0), ""), file(4, plainSegment(3, 0), "")},
		"64 files":                     full(),
	} {
		for _, fuse := range []int{-1, 0, 5} { // nothing is written: whether the disk is dead is never found out
			d := loaded(t, image(fuse, files...))
			refuses(t, what, d, api.ErrWalCorrupt)
			isDisk(t, what, d, fuse, files...)
		}
	}
}

// mendable are disks that have a log, or where one begins, with the bodies that it has.
var mendable = map[string]struct {
	files []api.DiskFile
	want  []string
}{
	"no file":              {nil, nil},
	"a part of a header":   {[]api.DiskFile{file(1, "QLO", "G")}, nil},
	"no bodies":            {[]api.DiskFile{file(1, plainSegment(1, 0), "")}, nil},
	"no bodies, in a tail": {[]api.DiskFile{file(1, "", plainSegment(1, 0))}, nil},
	"bodies":               {[]api.DiskFile{file(1, plainSegment(1, 0, "a", "", "bc"), "")}, []string{"a", "", "bc"}},
	"bodies in a tail":     {[]api.DiskFile{file(4, plainSegment(4, 1, "a", "", "bc")[:40], plainSegment(4, 1, "a", "", "bc")[40:])}, []string{"a", "", "bc"}},
	"a frame cut":          {[]api.DiskFile{file(4, plainSegment(4, 1, "a", "", "bc")[:70], "")}, []string{"a", ""}},
	"a byte behind":        {[]api.DiskFile{file(4, plainSegment(4, 1, "a"), "\x00")}, []string{"a"}},
	"the last segment":     {[]api.DiskFile{file(1<<62, plainSegment(1<<62, 1, "z", "zz"), "")}, []string{"z", "zz"}},
	"old files":            {[]api.DiskFile{file(1, plainSegment(1, 0, "old"), ""), file(2, plainSegment(2, 1, "new"), "")}, []string{"new"}},
	"a half base behind":   {[]api.DiskFile{file(1, plainSegment(1, 0, "old"), ""), file(2, half(2), "")}, []string{"old"}},
	"a number too high":    {[]api.DiskFile{file(7, plainSegment(7, 0, "old"), ""), file(1<<62+1, string(plainHeader(1<<62+1, 0)), "")}, []string{"old"}},
	"an empty base":        {[]api.DiskFile{file(1, plainSegment(1, 0, "old"), ""), file(2, plainSegment(2, 0), "")}, nil},
	"many files": {[]api.DiskFile{
		file(1, "", ""), file(3, plainSegment(3, 0, "old"), ""), file(5, plainSegment(5, 1, "new", "er")[:50], plainSegment(5, 1, "new", "er")[50:]+"tail"),
		file(7, plainSegment(7, 2, "void"), ""), file(9, "", ""), file(most, "any", "thing"),
	}, []string{"new", "er"}},
	"64 files": {append(full()[:63:63], file(64, plainSegment(64, 0, "one"), "")), []string{"one"}},
}

// The writes of Open are those that the second log does, in that order: with every fuse the disk is left alike.
func TestP8_7TheWrites(t *testing.T) {
	for what, c := range mendable {
		list, _, _, why := openWrites(image(-1, c.files...))
		if why != api.OK || len(list) == 0 {
			t.Fatalf("%s: the second log refuses it: %d", what, why)
		}
		for fuse := range len(list) {
			d, p := loaded(t, image(fuse, c.files...)), plainOf(image(fuse, c.files...))
			p.through(list)
			what := what + " with the fuse " + strconv.Itoa(fuse)
			refuses(t, what, d, api.ErrDiskDead)
			isDisk(t, what, d, 0, p.image().Files...)
		}
		for _, fuse := range []int{len(list), len(list) + 3, -1} {
			d, p := loaded(t, image(fuse, c.files...)), plainOf(image(fuse, c.files...))
			p.through(list)
			opened(t, d, c.want...)
			isDisk(t, what, d, p.image().Fuse, p.image().Files...)
			for _, f := range d.Image().Files {
				if len(d.Image().Files) != 1 || f.Tail != nil {
					t.Errorf("%s: the disk has %v", what, d.Image().Files)
				}
			}
		}
	}
}

// A log that was opened goes on in its segment, and every body of it is safe.
func TestP8_7TheLogGoesOn(t *testing.T) {
	for what, c := range mendable {
		d := disk(t, c.files...)
		l := opened(t, d, c.want...)
		d.Crash(nil)
		l = opened(t, d, c.want...)
		adds(t, l, "more", len(c.want))
		has(t, l, len(c.want)+1, len(c.want))
		syncs(t, l)
		d.Crash(nil)
		opened(t, d, append(c.want[:len(c.want):len(c.want)], "more")...)
		if files := d.Image().Files; len(files) != 1 {
			t.Errorf("%s: %v", what, files)
		}
	}
}

// Disks of any files, beside the second log.
func TestP8_7BesideASecondLog(t *testing.T) {
	dice := &dice{87}
	codes := map[api.Errno]int{}
	for range 4000 {
		img := image(one(dice, -1, -1, 0, 1, 2, 3, 4))
		for number := range uint64(5) {
			if number == 0 || dice.below(3) > 0 {
				continue
			}
			var texts []string
			for range dice.below(4) {
				texts = append(texts, dice.text(6))
			}
			b := one(dice, "", plainSegment(number, dice.below(3), texts...), plainSegment(number, 0, texts...))
			if dice.below(3) == 0 {
				b = b[:dice.below(len(b)+1)]
			}
			at := dice.below(len(b) + 1)
			img.Files = append(img.Files, file(number, b[:at], b[at:]))
		}
		d, p := loaded(t, img), plainOf(img)
		want, why := plainOpen(p)
		codes[why]++
		if why != api.OK {
			refuses(t, "made up", d, why)
		} else {
			l, got, err := wal.Open(d)
			if err != nil || !same(got, want.has) {
				t.Fatalf("Open of %v: %q %v, want %q", img, got, err, want.has)
			}
			has(t, l, len(want.has), want.safe)
		}
		if got := d.Image(); !same(got, p.image()) {
			t.Fatalf("Open of %v: the disk is\n%v, want\n%v", img, got, p.image())
		}
	}
	for _, code := range []api.Errno{0, api.ErrDiskDead, api.ErrWalCorrupt} {
		if codes[code] < 300 {
			t.Errorf("only %d disks came to %d", codes[code], code)
		}
	}
}
