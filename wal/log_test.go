package wal_test

import (
	"strings"
	"testing"

	"quorum/api"
	"quorum/wal"
)

func TestP8_8Append(t *testing.T) {
	d := wal.NewDisk()
	l := opened(t, d)
	var texts []string
	for i, s := range []string{"", "a", "\x00", "ab", "", strings.Repeat("s", 60000)} {
		adds(t, l, s, i)
		texts = append(texts, s)
		has(t, l, i+1, 0)
		isDisk(t, "added", d, -1, file(1, plainSegment(1, 0), plainSegment(1, 0, texts...)[21:]))
	}
	if at, err := l.Append(nil); at != 6 || err != nil {
		t.Errorf("Append(nil): %d %v", at, err)
	}
	addsNot(t, "too long", l, make([]byte, 60001), api.ErrWalLong)
	addsNot(t, "far too long", l, make([]byte, 1<<20), api.ErrWalLong)
	isDisk(t, "refused", d, -1, file(1, plainSegment(1, 0), plainSegment(1, 0, append(texts, "")...)[21:]))
	opened(t, d, append(texts, "")...)
}

// An Append is one write; the one that meets the dead disk breaks the log.
func TestP8_8ADeadDisk(t *testing.T) {
	d := wal.NewDisk()
	l := opened(t, d)
	adds(t, l, "ab", 0)
	syncs(t, l)
	d.Fuse(2)
	adds(t, l, "c", 1)
	adds(t, l, "", 2)
	addsNot(t, "too long for a dead disk", l, make([]byte, 60001), api.ErrWalLong)
	addsNot(t, "a dead disk", l, []byte("d"), api.ErrWalDead)
	isDisk(t, "dead", d, 0, file(1, plainSegment(1, 0, "ab"), plainSegment(1, 0, "ab", "c", "")[39:]))
	isBroken(t, "dead", l, d, 3, 1)
	d.Crash([]api.WalTear{tear(1, 99, -1)})
	isBroken(t, "alive again", l, d, 3, 1)
	isDisk(t, "alive again", d, -1, file(1, plainSegment(1, 0, "ab", "c", ""), ""))
	adds(t, opened(t, d, "ab", "c", ""), "d", 3)
}

func TestP8_9Sync(t *testing.T) {
	d := wal.NewDisk()
	l := opened(t, d)
	syncs(t, l)
	has(t, l, 0, 0)
	adds(t, l, "ab", 0)
	adds(t, l, "c", 1)
	has(t, l, 2, 0)
	d.Fuse(1)
	syncs(t, l)
	has(t, l, 2, 2)
	isDisk(t, "synced", d, 0, file(1, plainSegment(1, 0, "ab", "c"), ""))
	isFault(t, "a dead disk", l.Sync(), api.ErrWalDead, 0)
	isBroken(t, "a dead disk", l, d, 2, 2)
	d.Crash(nil)
	isBroken(t, "alive again", l, d, 2, 2)
	l = opened(t, d, "ab", "c")
	adds(t, l, "d", 2)
	d.Fuse(0)
	isFault(t, "a dead disk", l.Sync(), api.ErrWalDead, 0)
	isBroken(t, "a dead disk", l, d, 3, 2)
	d.Crash(nil)
	opened(t, d, "ab", "c")
}

func TestP8_10Rotate(t *testing.T) {
	d := wal.NewDisk()
	l := opened(t, d)
	number := uint64(1)
	for _, base := range [][]string{
		nil, {"x"}, {"x", "", "y"}, {""}, make([]string, 64), {strings.Repeat("s", 60000), "t"}, nil,
	} {
		adds(t, l, "was", l.Len())
		d.Fuse(4)
		rotates(t, l, base...)
		number++
		isDisk(t, "rotated", d, 0, file(number, plainSegment(number, len(base), base...), ""))
		d.Crash([]api.WalTear{tear(number, 7, 7)})
		l = opened(t, d, base...)
		adds(t, l, "more", len(base))
		syncs(t, l)
		isDisk(t, "more", d, -1, file(number, plainSegment(number, len(base), append(base[:len(base):len(base)], "more")...), ""))
	}
}

// Rotate broken off at each of its writes.
func TestP8_10TheWrites(t *testing.T) {
	base := plainSegment(2, 2, "x", "y")
	old := file(1, plainSegment(1, 0, "ab"), plainSegment(1, 0, "ab", "c")[39:])
	for fuse, files := range [][]api.DiskFile{
		{old},
		{old, file(2, "", "")},
		{old, file(2, "", base)},
		{old, file(2, base, "")},
	} {
		d, l := example3(t)
		d.Fuse(fuse)
		isFault(t, "Rotate", l.Rotate(bodies("x", "y")), api.ErrWalDead, 0)
		isDisk(t, "broken off", d, 0, files...)
		isBroken(t, "broken off", l, d, 2, 1)
		d.Crash(nil)
		isBroken(t, "alive again", l, d, 2, 1)
		if fuse == 3 {
			opened(t, d, "x", "y")
		} else {
			opened(t, d, "ab")
		}
	}
}

// Every refusal of Rotate alone and with those behind it; the log goes on as it was.
func TestP8_10Refusals(t *testing.T) {
	long := make([]byte, 60001)
	few := disk(t, file(5, plainSegment(5, 1, "q"), ""))
	last := disk(t, file(1<<62, plainSegment(1<<62, 1, "q"), ""))
	crowded := disk(t, file(5, plainSegment(5, 1, "q"), ""))
	longs := make([][]byte, 64)
	longs[63] = long
	all := make([][]byte, 65)
	for i := range all {
		all[i] = long
	}
	for what, c := range map[string]struct {
		d    *wal.Disk
		base [][]byte
		why  api.Errno
		at   int
	}{
		"65 bodies":                           {few, make([][]byte, 65), api.ErrWalBase, 0},
		"65 that are too long":                {few, all, api.ErrWalBase, 0},
		"65 on a crowded disk":                {crowded, all, api.ErrWalBase, 0},
		"65 behind the last":                  {last, all, api.ErrWalBase, 0},
		"too long":                            {few, [][]byte{long}, api.ErrWalLong, 0},
		"too long twice":                      {few, [][]byte{nil, make([]byte, 60000), long, nil, long}, api.ErrWalLong, 2},
		"the last of 64 too long":             {few, longs, api.ErrWalLong, 63},
		"too long on a crowded disk":          {crowded, longs, api.ErrWalLong, 63},
		"too long behind the last":            {last, longs, api.ErrWalLong, 63},
		"behind the last":                     {last, nil, api.ErrDiskFull, 0},
		"no room for a file":                  {crowded, bodies("x"), api.ErrDiskFull, 0},
		"the most bodies, no room for a file": {crowded, make([][]byte, 64), api.ErrDiskFull, 0},
	} {
		for _, fuse := range []int{-1, 2, 0} { // whether the disk is dead is found out behind all of these
			d := loaded(t, c.d.Image())
			l := opened(t, d, "q")
			for number := uint64(100); c.d == crowded && number < 163; number++ {
				answers(t, "Create", d.Create(number), api.OK)
			}
			adds(t, l, "r", 1)
			d.Fuse(fuse)
			was := d.Image()
			isFault(t, what, l.Rotate(c.base), c.why, c.at)
			if is := d.Image(); !same(is, was) {
				t.Errorf("%s: the disk is\n%v, was\n%v", what, is, was)
			}
			has(t, l, 2, 1)
			if fuse == 0 {
				addsNot(t, what, l, nil, api.ErrWalDead)
				continue
			}
			adds(t, l, "s", 2)
			syncs(t, l)
			has(t, l, 3, 3)
		}
	}
}

// One file below the most there is room for one more.
func TestP8_10The64thFile(t *testing.T) {
	d := disk(t, file(5, plainSegment(5, 1, "q"), ""))
	l := opened(t, d, "q")
	for number := uint64(100); number < 162; number++ {
		answers(t, "Create", d.Create(number), api.OK)
	}
	rotates(t, l, "x")
	if n := len(d.Image().Files); n != 63 {
		t.Errorf("%d files, want 63", n)
	}
	d = disk(t, file(1<<62-1, plainSegment(1<<62-1, 1, "q"), ""))
	l = opened(t, d, "q")
	rotates(t, l, "x")
	isDisk(t, "the last segment", d, -1, file(1<<62, plainSegment(1<<62, 1, "x"), ""))
	isFault(t, "behind the last", l.Rotate(nil), api.ErrDiskFull, 0)
}

// Long runs of all calls, with fuses and crashes, beside the second log: answers, numbers, disks.
func TestP8_11RunsBesideASecondLog(t *testing.T) {
	dice := &dice{811}
	codes := map[string]map[api.Errno]int{"Append": {}, "Sync": {}, "Rotate": {}, "Open": {}}
	for range 400 {
		d, p := wal.NewDisk(), &plainDisk{}
		var l *wal.Log
		var m *plainLog
		for range 80 {
			if m == nil {
				var why api.Errno
				m, why = plainOpen(p)
				codes["Open"][why]++
				if why != api.OK {
					refuses(t, "Open", d, why)
					tears := dice.tears(6)
					d.Crash(tears)
					p.crash(tears)
				} else {
					l = opened(t, d, texts(m.has)...)
				}
				continue
			}
			name := one(dice, "Append", "Append", "Append", "Sync", "Rotate", "Fuse", "Crash")
			var err error
			var why api.Errno
			switch name {
			case "Append":
				body := dice.text(20)
				var at, want int
				at, err = l.Append([]byte(body))
				want, why = m.append(body)
				if at != want {
					t.Fatalf("Append tells %d, want %d", at, want)
				}
			case "Sync":
				err = l.Sync()
				why = m.sync()
			case "Rotate":
				var base []string
				for range dice.below(4) {
					base = append(base, dice.text(9))
				}
				err = l.Rotate(bodies(base...))
				why = m.rotate(base)
			case "Fuse":
				if dice.below(3) == 0 {
					writes := dice.below(9)
					d.Fuse(writes)
					p.fuse(writes)
				}
			case "Crash":
				if m.broken || dice.below(3) == 0 {
					tears := dice.tears(6)
					d.Crash(tears)
					p.crash(tears)
					if fuse := dice.below(12); fuse < 3 {
						d.Fuse(fuse)
						p.fuse(fuse)
					}
					m = nil
				}
			}
			if why != api.OK {
				isFault(t, name, err, why, 0)
			} else if err != nil {
				t.Fatalf("%s: %v", name, err)
			}
			if m != nil {
				has(t, l, len(m.has), m.safe)
			}
			if counted := codes[name]; counted != nil {
				counted[why]++
			}
			if got := d.Image(); !same(got, p.image()) {
				t.Fatalf("%s: the disk is\n%v, want\n%v", name, got, p.image())
			}
		}
	}
	for name, counted := range codes {
		dead := api.ErrWalDead
		if name == "Open" {
			dead = api.ErrDiskDead
		}
		if counted[api.OK] < 300 || counted[dead] < 100 {
			t.Errorf("%s came only to %v", name, counted)
		}
	}
}

// texts gives bodies as texts.
func texts(bodies [][]byte) []string {
	var l []string
	for _, b := range bodies {
		l = append(l, string(b))
	}
	return l
}
