package session_test

import (
	"bytes"
	"testing"

	"quorum/api"
	"quorum/session"
	"quorum/snap"
)

func TestP7_3TheMachineOfItsSnapshot(t *testing.T) {
	for what, img := range map[string]api.Image{
		"a new one":    machine(t).Image(),
		"no accounts":  begun(t).Image(),
		"the examples": example2(t).Image(),
		"a rich one":   rich(t),
	} {
		b, err := snap.Pack(img)
		if err != nil {
			t.Fatal(err)
		}
		was := bytes.Clone(b)
		m := loaded(t, b)
		if !same(m.Image(), img) || !bytes.Equal(snapshot(t, m), was) {
			t.Errorf("%s: Load gives\n%v, want\n%v", what, m.Image(), img)
		}
		clear(b)
		if !same(m.Image(), img) {
			t.Errorf("%s: the bytes are kept", what)
		}
	}
}

// loads wants Load to do with bytes what snap.Unpack does, and then what Restore does; it tells who refused.
func loads(t *testing.T, b []byte) string {
	t.Helper()
	was := bytes.Clone(b)
	m, err := session.Load(b)
	if !bytes.Equal(b, was) {
		t.Fatalf("the bytes were changed: % x", was)
	}
	if m != nil && err != nil {
		t.Fatalf("a machine beside a refusal: % x", b)
	}
	img, lower := snap.Unpack(b)
	if lower != nil {
		isLower(t, "Load", err, lower)
		return "snap"
	}
	second, why := session.Restore(img)
	if why != nil {
		if !same(err, why) {
			t.Errorf("Load: %v, want %v", err, why)
		}
		return "session"
	}
	if err != nil || !same(m.Image(), second.Image()) {
		t.Errorf("Load: %v, of % x", err, b)
	}
	return ""
}

func TestP7_3CutAndLonger(t *testing.T) {
	b := snapshot(t, restored(t, rich(t)))
	for n := range len(b) {
		if loads(t, b[:n]) != "snap" {
			t.Errorf("%d of %d bytes are taken", n, len(b))
		}
	}
	if loads(t, append(bytes.Clone(b), 0)) != "snap" || loads(t, make([]byte, api.MaxSnap+1)) != "snap" {
		t.Error("bytes behind the end are taken")
	}
}

// Every byte of a snapshot turned to others.
func TestP7_3Spoilt(t *testing.T) {
	b := snapshot(t, restored(t, rich(t)))
	by := map[string]int{}
	for i := range b {
		for _, turn := range []byte{1, 2, 0x40, 0x80, 0xff} {
			spoilt := bytes.Clone(b)
			spoilt[i] ^= turn
			by[loads(t, spoilt)]++
		}
	}
	for _, who := range []string{"", "snap", "session"} {
		if by[who] < 20 {
			t.Errorf("only %d of the spoilt snapshots came to %q: %v", by[who], who, by)
		}
	}
}

// A snapshot that is well formed for layer 6 and yet no machine's is Restore's to refuse.
func TestP7_3WhatRestoreRefuses(t *testing.T) {
	for _, x := range turns() {
		img := rich(t)
		x.do(&img)
		b, err := snap.Pack(img)
		if err != nil {
			continue
		}
		if loads(t, b) != "session" {
			t.Errorf("%s: Load takes it", x.what)
		}
		_, err = session.Load(b)
		if x.why != api.OK {
			isFault(t, x.what, err, x.why, x.at)
		}
	}
}
