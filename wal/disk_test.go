package wal_test

import (
	"math"
	"testing"

	"quorum/api"
	"quorum/wal"
)

const most = uint64(math.MaxUint64)

// full gives as many files as a disk may have, of the numbers 1 to 64.
func full() []api.DiskFile {
	var l []api.DiskFile
	for i := range uint64(64) {
		l = append(l, file(i+1, "", ""))
	}
	return l
}

func TestP8_1NewDisk(t *testing.T) {
	d := wal.NewDisk()
	isDisk(t, "a new disk", d, -1)
	other := wal.NewDisk()
	answers(t, "Create", other.Create(1), api.OK)
	isDisk(t, "a new disk beside another", d, -1)
}

func TestP8_1TheFilesRise(t *testing.T) {
	d := wal.NewDisk()
	for _, n := range []uint64{7, most, 1, 1 << 32, 300, 2} {
		answers(t, "Create", d.Create(n), api.OK)
	}
	isDisk(t, "six files", d, -1, file(1, "", ""), file(2, "", ""), file(7, "", ""), file(300, "", ""), file(1<<32, "", ""), file(most, "", ""))
}

func TestP8_1TheDiskOfItsImage(t *testing.T) {
	for what, img := range map[string]api.DiskImage{
		"nothing":          image(-1),
		"dead":             image(0),
		"a fuse":           image(5, file(3, "", "")),
		"the longest fuse": image(math.MaxInt, file(3, "a", "")),
		"synced and tail":  image(-1, file(1, "", "tail"), file(2, "synced", ""), file(most, "both", "of them")),
		"64 files":         image(-1, full()...),
	} {
		d := loaded(t, img)
		if got := d.Image(); !same(got, img) {
			t.Errorf("%s: the disk is\n%v, want\n%v", what, got, img)
		}
	}
	for _, fuse := range []int{-1, -2, math.MinInt} {
		isDisk(t, "a fuse below 0", loaded(t, image(fuse)), -1)
	}
	empty := api.DiskImage{Files: []api.DiskFile{{Number: 1, Synced: []byte{}, Tail: []byte{}}}, Fuse: -1}
	isDisk(t, "empty lists", loaded(t, empty), -1, file(1, "", ""))
	isDisk(t, "no list", loaded(t, api.DiskImage{Files: []api.DiskFile{}, Fuse: 2}), 2)
}

// tooLong is one byte more than a file may have; nobody reads or writes them, so that they cost nothing.
func tooLong() []byte { return make([]byte, 1<<30+1) }

func TestP8_1Refusals(t *testing.T) {
	long := tooLong()
	for what, c := range map[string]struct {
		files []api.DiskFile
		why   api.Errno
		at    int
	}{
		"65 files":                          {append(full(), file(65, "", "")), 164, 0},
		"65 files of number 0":              {make([]api.DiskFile, 65), 164, 0},
		"number 0":                          {[]api.DiskFile{file(0, "", "")}, 161, 0},
		"number 0 behind another":           {[]api.DiskFile{file(1, "", ""), file(2, "", ""), file(0, "", "")}, 161, 2},
		"twice":                             {[]api.DiskFile{file(4, "", ""), file(4, "", "")}, 4, 1},
		"falling":                           {[]api.DiskFile{file(1, "", ""), file(9, "", ""), file(8, "", "")}, 4, 2},
		"too long, synced":                  {[]api.DiskFile{file(1, "", ""), {Number: 2, Synced: long}}, 164, 1},
		"too long, tail":                    {[]api.DiskFile{{Number: 2, Tail: long}}, 164, 0},
		"too long together":                 {[]api.DiskFile{{Number: 2, Synced: long[:1<<29], Tail: long[:1<<29+1]}}, 164, 0},
		"too long twice":                    {[]api.DiskFile{{Number: 2, Synced: long, Tail: long}}, 164, 0},
		"number 0 and too long":             {[]api.DiskFile{file(3, "", ""), {Synced: long}}, 161, 1},
		"falling and too long":              {[]api.DiskFile{file(3, "", ""), {Number: 3, Tail: long}}, 4, 1},
		"too long ahead of number 0":        {[]api.DiskFile{{Number: 1, Tail: long}, {}}, 164, 0},
		"falling ahead of number 0":         {[]api.DiskFile{file(2, "", ""), file(1, "", ""), {}}, 4, 1},
		"the last of 64, behind no refusal": {append(full()[:63], file(63, "", "")), 4, 63},
	} {
		for _, fuse := range []int{-1, 0} {
			d, err := wal.LoadDisk(image(fuse, c.files...))
			isFault(t, what, err, c.why, c.at)
			if d != nil {
				t.Errorf("%s: a disk beside a refusal", what)
			}
		}
	}
}

// A file of MaxFile bytes is taken, and not one byte more; a log on it goes on.
func TestP8_2TheLongestFile(t *testing.T) {
	d := loaded(t, api.DiskImage{Files: []api.DiskFile{{Number: 1, Synced: []byte(plainSegment(1, 0))}, {Number: 3, Synced: make([]byte, 1<<30-8), Tail: make([]byte, 8)}}, Fuse: 9})
	answers(t, "one byte more", d.Append(3, []byte{1}), api.ErrDiskFull)
	answers(t, "very many more", d.Append(3, tooLong()), api.ErrDiskFull)
	answers(t, "no byte more", d.Append(3, nil), api.OK)
	answers(t, "Cut", d.Cut(3, 1<<30-1), api.OK)
	answers(t, "two bytes more", d.Append(3, []byte{1, 2}), api.ErrDiskFull)
	answers(t, "one byte more", d.Append(3, []byte{1}), api.OK)
	answers(t, "one byte more", d.Append(3, []byte{1}), api.ErrDiskFull)
	answers(t, "Remove", d.Remove(3), api.OK)
	isDisk(t, "a refused write is none", d, 5, file(1, plainSegment(1, 0), ""))

	l := opened(t, d) // this is a write, the Sync
	answers(t, "bytes behind the log's", d.Append(1, make([]byte, 1<<30-21-18)), api.OK)
	addsNot(t, "no room", l, []byte("abc"), api.ErrDiskFull)
	answers(t, "Cut", d.Cut(1, 1<<30-18), api.OK)
	adds(t, l, "ab", 0)
	addsNot(t, "no room at all", l, nil, api.ErrDiskFull)
	d.Fuse(0)
	addsNot(t, "no room on a dead disk", l, nil, api.ErrWalDead)
	isBroken(t, "no room on a dead disk", l, disk(t), 1, 0) // beside another disk, as the image of this one is large
}

// do carries a write out on a disk.
func do(d *wal.Disk, w write) api.Errno {
	switch w.name {
	case "Create":
		return d.Create(w.number)
	case "Append":
		return d.Append(w.number, []byte(w.data))
	case "Sync":
		return d.Sync(w.number)
	case "Cut":
		return d.Cut(w.number, w.length)
	}
	return d.Remove(w.number)
}

var writeNames = []string{"Create", "Append", "Sync", "Cut", "Remove"}

// Each write alone: what it does, and that the fuse goes down by one.
func TestP8_2WhatTheWritesDo(t *testing.T) {
	first := []api.DiskFile{file(2, "abc", "defg"), file(5, "", "x")}
	for _, c := range []struct {
		w     write
		files []api.DiskFile
	}{
		{write{name: "Create", number: 3}, []api.DiskFile{first[0], file(3, "", ""), first[1]}},
		{write{name: "Create", number: most}, append(first[:2:2], file(most, "", ""))},
		{write{name: "Append", number: 2, data: "hi"}, []api.DiskFile{file(2, "abc", "defghi"), first[1]}},
		{write{name: "Append", number: 2}, first},
		{write{name: "Sync", number: 2}, []api.DiskFile{file(2, "abcdefg", ""), first[1]}},
		{write{name: "Cut", number: 2, length: 7}, first},
		{write{name: "Cut", number: 2, length: 6}, []api.DiskFile{file(2, "abc", "def"), first[1]}},
		{write{name: "Cut", number: 2, length: 3}, []api.DiskFile{file(2, "abc", ""), first[1]}},
		{write{name: "Cut", number: 2, length: 2}, []api.DiskFile{file(2, "ab", ""), first[1]}},
		{write{name: "Cut", number: 2}, []api.DiskFile{file(2, "", ""), first[1]}},
		{write{name: "Remove", number: 5}, first[:1]},
		{write{name: "Remove", number: 2}, first[1:]},
	} {
		for _, fuse := range []int{-1, 1, 2, 7} {
			d := loaded(t, image(fuse, first...))
			answers(t, c.w.name, do(d, c.w), api.OK)
			left := fuse
			if fuse > 0 {
				left--
			}
			isDisk(t, c.w.name, d, left, c.files...)
		}
	}
}

// Every reason alone and with all that come behind it.
func TestP8_2Refusals(t *testing.T) {
	few := []api.DiskFile{file(2, "abc", "defg")}
	for _, c := range []struct {
		what  string
		fuse  int
		files []api.DiskFile
		w     write
		why   api.Errno
	}{
		{"dead", 0, few, write{name: "Create", number: 1}, 160},
		{"dead", 0, few, write{name: "Append", number: 2, data: "x"}, 160},
		{"dead", 0, few, write{name: "Sync", number: 2}, 160},
		{"dead", 0, few, write{name: "Cut", number: 2}, 160},
		{"dead", 0, few, write{name: "Remove", number: 2}, 160},
		{"dead and taken", 0, few, write{name: "Create", number: 2}, 160},
		{"dead and full", 0, full(), write{name: "Create", number: 99}, 160},
		{"dead and length", 0, few, write{name: "Cut", number: 2, length: 8}, 160},
		{"zero and full", 1, full(), write{name: "Create"}, 161},
		{"taken", 1, few, write{name: "Create", number: 2}, 162},
		{"taken and full", 1, full(), write{name: "Create", number: 64}, 162},
		{"unknown and length", 1, few, write{name: "Cut", number: 3, length: -1}, 163},
		{"full", 1, full(), write{name: "Create", number: 65}, 164},
		{"full", -1, full(), write{name: "Create", number: most}, 164},
		{"below 0", 1, few, write{name: "Cut", number: 2, length: -1}, 165},
		{"far below 0", 1, few, write{name: "Cut", number: 2, length: math.MinInt}, 165},
		{"above", 1, few, write{name: "Cut", number: 2, length: 8}, 165},
		{"far above", 1, few, write{name: "Cut", number: 2, length: math.MaxInt}, 165},
	} {
		d := loaded(t, image(c.fuse, c.files...))
		answers(t, c.what+" "+c.w.name, do(d, c.w), c.why)
		isDisk(t, c.what+" "+c.w.name, d, c.fuse, c.files...)
	}
	for _, name := range writeNames {
		for _, c := range []struct {
			fuse   int
			number uint64
			why    api.Errno
		}{
			{0, 0, 160}, {0, 9, 160}, {1, 0, 161}, {-1, 0, 161}, {1, 9, 163}, {-1, most, 163},
		} {
			if name == "Create" && c.why == 163 {
				continue
			}
			d := loaded(t, image(c.fuse, few...))
			answers(t, name, do(d, write{name: name, number: c.number, length: 99}), c.why)
			isDisk(t, name, d, c.fuse, few...)
		}
	}
}

func TestP8_2Read(t *testing.T) {
	for _, fuse := range []int{-1, 0, 3} {
		d := loaded(t, image(fuse, file(1, "", ""), file(2, "abc", "defg"), file(3, "", "t"), file(4, "s", "")))
		for _, c := range []struct {
			number uint64
			want   string
			why    api.Errno
		}{
			{0, "", 161}, {1, "", 0}, {2, "abcdefg", 0}, {3, "t", 0}, {4, "s", 0}, {5, "", 163}, {most, "", 163},
		} {
			if b, why := d.Read(c.number); why != c.why || !same(b, list(c.want)) {
				t.Errorf("Read(%d): %q %d, want %q %d", c.number, b, why, c.want, c.why)
			}
		}
		if d.Image().Fuse != fuse {
			t.Error("Read is a write")
		}
	}
}

func TestP8_3Fuse(t *testing.T) {
	for _, c := range []struct{ was, writes, is int }{
		{-1, 3, 3}, {-1, 0, 0}, {-1, -1, -1}, {-1, -9, -1}, {-1, math.MinInt, -1}, {-1, math.MaxInt, math.MaxInt},
		{2, 3, 3}, {2, 0, 0}, {2, 1, 1}, {2, -1, -1}, {2, -7, -1},
		{0, 3, 0}, {0, 0, 0}, {0, -1, 0}, {0, math.MaxInt, 0},
	} {
		d := loaded(t, image(c.was, file(1, "a", "b")))
		d.Fuse(c.writes)
		isDisk(t, "Fuse", d, c.is, file(1, "a", "b"))
	}
}

// The disk takes just as many writes as it was told.
func TestP8_3SoManyWrites(t *testing.T) {
	for writes := range 6 {
		d := disk(t, file(1, "", ""))
		d.Fuse(writes)
		for i := range writes {
			answers(t, "ahead of its end", d.Append(1, []byte{byte(i)}), api.OK)
			answers(t, "a refused write", d.Create(0), []api.Errno{api.ErrDiskZero, api.ErrDiskDead}[min(1, (i+1)/writes)])
		}
		for range 3 {
			answers(t, "behind its end", d.Append(1, []byte{9}), api.ErrDiskDead)
		}
		if b, why := d.Read(1); len(b) != writes || why != api.OK {
			t.Errorf("%d bytes behind %d writes", len(b), writes)
		}
	}
}

func TestP8_4Crash(t *testing.T) {
	for _, c := range []struct {
		what  string
		tears []api.WalTear
		want  string
	}{
		{"no tears", nil, "ab"},
		{"an empty list", []api.WalTear{}, "ab"},
		{"another file's", []api.WalTear{tear(2, 3, -1), tear(0, 3, -1)}, "ab"},
		{"Keep 0", []api.WalTear{tear(1, 0, 0)}, "ab"},
		{"Keep below 0", []api.WalTear{tear(1, -1, 0)}, "ab"},
		{"Keep far below 0", []api.WalTear{tear(1, math.MinInt, 0)}, "ab"},
		{"Keep 1", []api.WalTear{tear(1, 1, -1)}, "abc"},
		{"Keep all", []api.WalTear{tear(1, 3, -1)}, "abcde"},
		{"Keep more", []api.WalTear{tear(1, 4, -1)}, "abcde"},
		{"Keep far more", []api.WalTear{tear(1, math.MaxInt, math.MinInt)}, "abcde"},
		{"the first bit", []api.WalTear{tear(1, 3, 0)}, "abbde"},
		{"the lowest bit but one", []api.WalTear{tear(1, 3, 1)}, "abade"},
		{"the highest bit", []api.WalTear{tear(1, 3, 7)}, "ab\xe3de"},
		{"the second byte's first", []api.WalTear{tear(1, 3, 8)}, "abcee"},
		{"the last bit", []api.WalTear{tear(1, 3, 23)}, "abcd\xe5"},
		{"the last bit of what stays", []api.WalTear{tear(1, 1, 7)}, "ab\xe3"},
		{"a bit behind what stays", []api.WalTear{tear(1, 1, 8)}, "abc"},
		{"a bit behind all, Keep far more", []api.WalTear{tear(1, 1000, 24)}, "abcde"},
		{"a bit far behind", []api.WalTear{tear(1, 3, math.MaxInt)}, "abcde"},
		{"the first of two", []api.WalTear{tear(1, 1, 0), tear(1, 3, -1)}, "abb"},
		{"the first of two, that keeps nothing", []api.WalTear{tear(2, 2, -1), tear(1, 0, -1), tear(1, 3, -1)}, "ab"},
	} {
		for _, fuse := range []int{-1, 0, 4} {
			d := loaded(t, image(fuse, file(1, "ab", "cde"), file(7, "zz", "zz")))
			d.Crash(c.tears)
			isDisk(t, c.what, d, -1, file(1, c.want, ""), file(7, "zz", ""))
		}
	}
}

// What stayed is synced: the next crash takes none of it; and what comes behind a cut tail is new.
func TestP8_4TwoCrashes(t *testing.T) {
	d := disk(t, file(1, "ab", "cdefg"), file(2, "", "hi"), file(3, "j", ""))
	d.Crash([]api.WalTear{tear(2, 1, 3), tear(1, 2, -1)})
	isDisk(t, "one crash", d, -1, file(1, "abcd", ""), file(2, "`", ""), file(3, "j", ""))
	answers(t, "Append", d.Append(1, []byte("xy")), api.OK)
	isDisk(t, "more", d, -1, file(1, "abcd", "xy"), file(2, "`", ""), file(3, "j", ""))
	d.Crash([]api.WalTear{tear(2, 1, 3), tear(1, 1, 0)})
	isDisk(t, "two crashes", d, -1, file(1, "abcdy", ""), file(2, "`", ""), file(3, "j", ""))
}

// tears gives a list that often says something of these files.
func (d *dice) tears(numbers int) []api.WalTear {
	var l []api.WalTear
	for range d.below(5) {
		l = append(l, tear(uint64(d.below(numbers)), one(d, d.below(60), d.below(8), 1000, -3), one(d, -1, -1, d.below(70), d.below(500))))
	}
	return l
}

// Long runs of all calls beside the second disk.
func TestP8_2RunsBesideASecondDisk(t *testing.T) {
	dice := &dice{82}
	codes := map[api.Errno]int{}
	for range 300 {
		numbers := one(dice, 4, 8, 90)
		first := image(-1)
		if numbers == 90 {
			first.Files = full()[:62]
		}
		d, p := loaded(t, first), plainOf(first)
		for range 200 {
			number := uint64(dice.below(numbers))
			w := write{one(dice, "Create", "Append", "Append", "Sync", "Cut"), number, dice.text(20), dice.below(30) - 1}
			switch dice.below(20) {
			case 0:
				w.name = "Remove"
			case 1:
				writes := one(dice, -1, -5, 0, 3, 10)
				d.Fuse(writes)
				p.fuse(writes)
			case 2:
				tears := dice.tears(numbers)
				d.Crash(tears)
				p.crash(tears)
			case 3:
				d = loaded(t, d.Image())
			}
			want := p.do(w)
			if got := do(d, w); got != want {
				t.Fatalf("%v: %d, want %d", w, got, want)
			}
			codes[want]++
			if got := d.Image(); !same(got, p.image()) {
				t.Fatalf("%v: the disk is\n%v, want\n%v", w, got, p.image())
			}
			b, why := d.Read(number)
			if q := p.file(number); why == api.OK && string(b) != q.bytes() {
				t.Fatalf("Read(%d): %q, want %q", number, b, q.bytes())
			}
		}
	}
	for _, code := range []api.Errno{0, 160, 161, 162, 163, 164, 165} {
		if codes[code] < 50 {
			t.Errorf("only %d writes came to %d", codes[code], code)
		}
	}
}
