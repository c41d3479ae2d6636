package wal_test

import (
	"slices"
	"testing"

	"quorum/api"
	"quorum/wal"
)

// step is a call of a log: Append of a body, Sync, or Rotate to a base.
type step struct {
	name string
	body string
	base []string
}

// past is what is known of a log that was used: its bodies, how many a crash can't take, and the base of a Rotate that was broken off.
type past struct {
	had     []string
	safe    int
	broken  bool
	rotated bool // the Rotate was the one that was broken off
	base    []string
}

// play opens a log on a disk and makes calls until one is refused. It keeps what was handed in by itself, not by what the log tells.
func play(t *testing.T, d *wal.Disk, steps []step) past {
	t.Helper()
	l, told, err := wal.Open(d)
	if err != nil {
		return past{broken: true}
	}
	p := past{had: texts(told), safe: len(told)}
	for _, s := range steps {
		switch s.name {
		case "Append":
			_, err = l.Append([]byte(s.body))
		case "Sync":
			err = l.Sync()
		case "Rotate":
			err = l.Rotate(bodies(s.base...))
		}
		if err != nil {
			isFault(t, s.name, err, api.ErrWalDead, 0)
			p.broken, p.rotated, p.base = true, s.name == "Rotate", s.base
			break
		}
		switch s.name {
		case "Append":
			p.had = append(p.had, s.body)
		case "Sync":
			p.safe = len(p.had)
		case "Rotate":
			p.had, p.safe = slices.Clone(s.base), len(s.base)
		}
	}
	has(t, l, len(p.had), p.safe)
	return p
}

// mayBe tells whether these bodies are a state between two commits.
func (p past) mayBe(told []string) bool {
	if p.rotated && slices.Equal(told, p.base) {
		return true
	}
	return len(told) >= p.safe && len(told) <= len(p.had) && slices.Equal(told, p.had[:len(told)])
}

// crashed wants Open to tell a state between two commits of a copy of the disk that crashes so; it gives what Open told.
func crashed(t *testing.T, p past, img api.DiskImage, tears []api.WalTear) []string {
	t.Helper()
	d := loaded(t, img)
	d.Crash(tears)
	l, told, err := wal.Open(d)
	if l == nil || err != nil {
		t.Fatalf("behind a crash with %v of %v: %v", tears, img, err)
	}
	if !p.mayBe(texts(told)) {
		t.Fatalf("behind a crash with %v of %v: %q of %v", tears, img, told, p)
	}
	return texts(told)
}

// someSteps have every call behind every other.
var someSteps = []step{
	{name: "Append", body: "ab"}, {name: "Append", body: ""}, {name: "Sync"}, {name: "Append", body: "c"},
	{name: "Rotate", base: []string{"x", "", "y"}}, {name: "Append", body: "z"}, {name: "Rotate", base: []string{"x"}},
	{name: "Rotate"}, {name: "Append", body: "\x00"}, {name: "Sync"}, {name: "Sync"}, {name: "Append", body: "q"}, {name: "Append", body: "r"},
}

// Every fuse, and behind it every tear of every file alone: each length that stays, each bit that is turned.
func TestP8_12EveryFuseAndTear(t *testing.T) {
	for fuse := range 31 {
		d := wal.NewDisk()
		d.Fuse(fuse)
		p := play(t, d, someSteps)
		if p.broken != (fuse < 25) {
			t.Errorf("the fuse %d: broken is %v", fuse, p.broken)
		}
		img := d.Image()
		states := map[int]int{}
		states[len(crashed(t, p, img, nil))]++
		for _, f := range img.Files {
			for keep := range len(f.Tail) + 1 {
				for flip := -1; flip < 8*keep; flip++ {
					states[len(crashed(t, p, img, []api.WalTear{tear(f.Number, keep, flip)}))]++
				}
			}
		}
		if p.safe < len(p.had) && !p.rotated && len(states) < 2 {
			t.Errorf("the fuse %d: all crashes leave the same: %v", fuse, states)
		}
	}
}

// A base whose every byte stayed is taken whole, also if it was never synced; with a bit turned none of it is.
func TestP8_12ABaseWhollyOrNotAtAll(t *testing.T) {
	d, l := example3(t)
	d.Fuse(2)
	base := []string{"x", "yy", "", "z"}
	isFault(t, "Rotate", l.Rotate(bodies(base...)), api.ErrWalDead, 0)
	p := past{had: []string{"ab", "c"}, safe: 1, broken: true, rotated: true, base: base}
	img := d.Image()
	size := len(img.Files[1].Tail)
	if got := crashed(t, p, img, []api.WalTear{tear(2, size, -1)}); !slices.Equal(got, base) {
		t.Errorf("all of the base stayed: %q", got)
	}
	for keep := range size + 1 {
		for flip := -1; flip < 8*keep; flip++ {
			if keep == size && flip < 0 {
				continue
			}
			if got := crashed(t, p, img, []api.WalTear{tear(2, keep, flip)}); !slices.Equal(got, []string{"ab"}) {
				t.Errorf("keep %d, flip %d: %q", keep, flip, got)
			}
		}
	}
}

// steps gives calls in any order.
func (d *dice) steps() []step {
	var l []step
	for range d.below(14) {
		s := step{name: one(d, "Append", "Append", "Append", "Sync", "Rotate")}
		switch s.name {
		case "Append":
			s.body = d.text(30)
		case "Rotate":
			for range d.below(4) {
				s.base = append(s.base, d.text(12))
			}
		}
		l = append(l, s)
	}
	return l
}

// Long runs on one disk: used, broken off, crashed with tears of all files, opened, used again. Without a crash Open tells all.
func TestP8_12LongRuns(t *testing.T) {
	dice := &dice{812}
	bases, parts, alls := 0, 0, 0
	for range 600 {
		d := wal.NewDisk()
		for range 12 {
			d.Fuse(one(dice, -1, dice.below(20), dice.below(40)))
			p := play(t, d, dice.steps())
			if !p.broken {
				d.Fuse(-1)
				if d.Image().Fuse < 0 {
					opened(t, loaded(t, d.Image()), p.had...)
				}
			}
			if p.had == nil && p.broken && !p.rotated {
				d.Crash(dice.tears(9)) // Open itself may have been broken off: P8.13
				continue
			}
			var tears []api.WalTear
			for _, f := range d.Image().Files {
				tears = append(tears, tear(f.Number, dice.below(len(f.Tail)+2), one(dice, -1, -1, -1, dice.below(8*len(f.Tail)+8))))
			}
			got := crashed(t, p, d.Image(), tears)
			switch {
			case p.rotated && len(got) > 0 && slices.Equal(got, p.base):
				bases++
			case len(got) < len(p.had):
				parts++
			case p.safe < len(p.had):
				alls++
			}
			d.Crash(tears)
		}
	}
	if bases < 50 || parts < 300 || alls < 100 {
		t.Errorf("only %d bases of a Rotate that was broken off, %d beginnings, %d whole logs with a tail", bases, parts, alls)
	}
}

// Open behind Open tells the same, and changes no file.
func TestP8_13OpenBehindOpen(t *testing.T) {
	dice := &dice{813}
	for range 800 {
		d := wal.NewDisk()
		p := play(t, d, dice.steps())
		d.Fuse(dice.below(7))
		play(t, d, dice.steps())
		if dice.below(2) == 0 {
			d.Crash(dice.tears(9))
		} else {
			d = loaded(t, image(-1, d.Image().Files...))
		}
		_, first, err := wal.Open(d)
		if err != nil {
			t.Fatalf("Open behind %v: %v", p, err)
		}
		was := d.Image()
		for range 2 {
			opened(t, d, texts(first)...)
			if is := d.Image(); !same(is, was) {
				t.Fatalf("the disk is\n%v, was\n%v", is, was)
			}
		}
	}
}

// allTears gives every tear of every file alone, and some of all together.
func (d *dice) allTears(img api.DiskImage) [][]api.WalTear {
	l := [][]api.WalTear{nil}
	for _, f := range img.Files {
		for keep := range len(f.Tail) + 1 {
			for flip := -1; flip < 8*keep; flip++ {
				l = append(l, []api.WalTear{tear(f.Number, keep, flip)})
			}
		}
	}
	for range 5 {
		l = append(l, d.tears(9))
	}
	return l
}

// An Open right behind a crash, broken off by every fuse: behind the next crash Open tells what it would have told.
func TestP8_13OpenBrokenOff(t *testing.T) {
	dice := &dice{8130}
	brokenOff, written := 0, 0
	for round := range 400 {
		d := wal.NewDisk()
		if round%4 > 0 { // else the disk is new: the very first Open is broken off
			d.Fuse(dice.below(30))
			play(t, d, dice.steps())
		}
		d.Crash(dice.tears(9))
		img := d.Image()
		_, want, err := wal.Open(d)
		if err != nil {
			t.Fatal(err)
		}
		for fuse := range 6 {
			d := loaded(t, img)
			d.Fuse(fuse)
			if _, _, err := wal.Open(d); err == nil {
				break
			}
			brokenOff++
			if fuse > 0 {
				written++
			}
			dead := d.Image()
			for _, tears := range dice.allTears(dead) {
				d := loaded(t, dead)
				d.Crash(tears)
				opened(t, d, texts(want)...)
			}
		}
	}
	if brokenOff < 600 || written < 300 {
		t.Errorf("only %d were broken off, %d of them behind a write", brokenOff, written)
	}
}
