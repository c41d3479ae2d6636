package session_test

import (
	"bytes"
	"sync"
	"testing"

	"quorum/api"
	"quorum/deal"
	"quorum/session"
	"quorum/snap"
)

// Every session asked for its number, those beside it, and the ends.
func TestP7_5Ask(t *testing.T) {
	m := restored(t, rich(t))
	was := m.Image()
	for _, s := range was.Sessions {
		want := api.Reply{Client: s.Client, Seq: s.Seq, Stamp: s.Stamp, Code: s.Code, Data: s.Data}
		if got, code := m.Ask(s.Client, s.Seq); code != api.OK || !same(got, want) {
			t.Errorf("Ask(%d, %d): %v %d, want %v", s.Client, s.Seq, got, code, want)
		}
		for _, seq := range []uint64{0, s.Seq - 1} {
			if got, code := m.Ask(s.Client, seq); code != api.ErrSessionOld || !same(got, api.Reply{}) {
				t.Errorf("Ask(%d, %d): %v %d", s.Client, seq, got, code)
			}
		}
		for _, seq := range []uint64{s.Seq + 1, most} {
			if got, code := m.Ask(s.Client, seq); code != api.ErrSessionNew || !same(got, api.Reply{}) {
				t.Errorf("Ask(%d, %d): %v %d", s.Client, seq, got, code)
			}
		}
	}
	for _, client := range []uint64{0, 1, 255, 256, 299, 303, most} {
		for _, seq := range []uint64{0, 1, 2, 4, most} {
			if got, code := m.Ask(client, seq); code != api.ErrSessionNew || !same(got, api.Reply{}) {
				t.Errorf("Ask(%d, %d): %v %d", client, seq, got, code)
			}
		}
	}
	if !same(m.Image(), was) {
		t.Error("Ask changes the machine")
	}
}

func TestP7_5NewMemory(t *testing.T) {
	m := restored(t, rich(t))
	was := m.Image()
	one, _ := m.Ask(302, 1)
	two, _ := m.Ask(302, 1)
	filled(one.Data)
	if !same(two.Data, was.Sessions[2].Data) || len(two.Data) == 0 || !same(m.Image(), was) {
		t.Error("what is told is not new memory")
	}
}

// The sessions are told rising by client, in whatever order they came.
func TestP7_6Rising(t *testing.T) {
	d := &dice{76}
	for range 50 {
		m := machine(t)
		want := map[uint64]uint64{}
		for range 40 {
			client, seq := one(d, 256, 257, 511, 512, 65536, 1<<32, 1<<40, most, 300+uint64(d.below(8))), uint64(1+d.below(20))
			if _, err := m.Batch(batch(0, ask(client, seq, none))); err != nil {
				t.Fatal(err)
			}
			want[client] = max(want[client], seq)
		}
		list := m.Image().Sessions
		if len(list) != len(want) || len(list) < 5 {
			t.Fatalf("%d sessions, want %d", len(list), len(want))
		}
		for i, s := range list {
			if i > 0 && s.Client <= list[i-1].Client || s.Seq != want[s.Client] {
				t.Fatalf("the sessions are %v", list)
			}
		}
	}
}

func TestP7_6TheHousesImage(t *testing.T) {
	img := rich(t)
	house, err := deal.Restore(img.House)
	if err != nil {
		t.Fatal(err)
	}
	m := restored(t, img)
	release := packed(t, api.Cmd{Verb: api.VRelease, Deal: 7})
	runs(t, m, batch(10, ask(300, 3, release)), reply(300, 3, 10, api.OK, 0, 54, 6))
	house.Apply(300, release, 10)
	if is := m.Image(); !same(is.House, house.Image()) || is.Slot != 5 || is.Now != 10 {
		t.Errorf("Image: %v", is)
	}
}

func TestP7_6Snapshot(t *testing.T) {
	for _, img := range []api.Image{rich(t), machine(t).Image(), sixteen(t).Image()} {
		want, err := snap.Pack(img)
		if err != nil {
			t.Fatal(err)
		}
		if m := restored(t, img); !bytes.Equal(snapshot(t, m), want) || !same(m.Image(), img) {
			t.Errorf("Snapshot: % x\nwant      % x", snapshot(t, m), want)
		}
	}
}

func TestP7_6NewMemory(t *testing.T) {
	m := restored(t, rich(t))
	was := m.Image()
	b := snapshot(t, m)
	spoilt := m.Image()
	for i := range spoilt.Sessions {
		filled(spoilt.Sessions[i].Data)
		spoilt.Sessions[i].Seq = 77
	}
	clear(spoilt.House.Book.Accounts)
	clear(spoilt.House.Book.Holds)
	clear(spoilt.House.Book.Journal)
	clear(spoilt.House.Deals)
	filled(snapshot(t, m))
	if !same(m.Image(), was) || !bytes.Equal(snapshot(t, m), b) {
		t.Error("what is told is not new memory")
	}
	img := m.Image()
	filled(img.Sessions[0].Data)
	filled(img.Sessions[1].Data)
	if !same(img.Sessions[2].Data, was.Sessions[2].Data) {
		t.Error("two lists of one image share memory")
	}
}

func TestP7_6WhatNobodyMade(t *testing.T) {
	house, err := deal.New(twoAccounts())
	if err != nil {
		t.Fatal(err)
	}
	for what, m := range map[string]*session.Machine{"nil": nil, "a plain one": {}, "one with a house put in": {House: house}} {
		for range 2 { // nothing changes it
			for _, b := range []api.Batch{{}, batch(5, ask(300, 1, T)), batch(most), {Reqs: make([]api.Request, 9)}} {
				got, err := m.Batch(b)
				isFault(t, what+": Batch", err, api.ErrZero, 0)
				if got != nil {
					t.Errorf("%s: replies %v", what, got)
				}
			}
			b, err := m.Snapshot()
			isFault(t, what+": Snapshot", err, api.ErrZero, 0)
			if b != nil {
				t.Errorf("%s: bytes % x", what, b)
			}
			for _, seq := range []uint64{0, 1, most} {
				if got, code := m.Ask(300, seq); code != api.ErrZero || !same(got, api.Reply{}) {
					t.Errorf("%s: Ask: %v %d", what, got, code)
				}
			}
			if m.Slot() != 0 || m.Now() != 0 || !same(m.Image(), api.Image{}) {
				t.Errorf("%s: %d %d %v", what, m.Slot(), m.Now(), m.Image())
			}
		}
	}
	var plain session.Machine
	if plain.Slot() != 0 || !same(plain, session.Machine{}) {
		t.Error("a plain machine is changed by being asked")
	}
}

// What tells changes nothing, so that many may ask at one time; and machines have nothing to do with each other.
func TestP7_6SideBySide(t *testing.T) {
	m := restored(t, rich(t))
	want := snapshot(t, m)
	var all sync.WaitGroup
	for range 8 {
		all.Go(func() {
			own := loaded(t, want)
			for i := range uint64(50) {
				m.Ask(302, 1)
				if b, err := m.Snapshot(); err != nil || !bytes.Equal(b, want) || m.Slot() != 4 || m.Now() != 9 {
					t.Errorf("Snapshot: %v", err)
				}
				if _, err := own.Batch(batch(i, ask(300, 3+i, T))); err != nil {
					t.Error(err)
				}
			}
		})
	}
	all.Wait()
}
