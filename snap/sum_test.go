package snap_test

import (
	"bytes"
	"crypto/sha256"
	"encoding/hex"
	"sync"
	"testing"

	"quorum/api"
	"quorum/snap"
)

// crypto/sha256 is the second way to each sum.

func TestP6_1EveryLength(t *testing.T) {
	d := &dice{1}
	for n := range 600 { // every end of a block, at and beside it
		b := d.bytes(n)
		if got := snap.Sum(b); got != api.Hash(sha256.Sum256(b)) {
			t.Fatalf("Sum of %d bytes: %x", n, got)
		}
	}
	for _, n := range []int{4095, 4096, 40000, 1 << 20} {
		b := d.bytes(n)
		if got := snap.Sum(b); got != api.Hash(sha256.Sum256(b)) {
			t.Errorf("Sum of %d bytes: %x", n, got)
		}
	}
}

func TestP6_1KnownSums(t *testing.T) {
	for in, want := range map[string]string{
		"a": "ca978112ca1bbdcafac231b39a23dc4da786eff8147c4e72b9807785afee48bb",
		"abcdbcdecdefdefgefghfghighijhijkijkljklmklmnlmnomnopnopq":                                                         "248d6a61d20638b8e5c026930c3e6039a33ce45964ff2167f6ecedd419db06c1",
		"abcdefghbcdefghicdefghijdefghijkefghijklfghijklmghijklmnhijklmnoijklmnopjklmnopqklmnopqrlmnopqrsmnopqrstnopqrstu": "cf5b16a778af8380036ce59e7b0492370b249b11e8f07a51afac45037afee9d1",
	} {
		if sum := snap.Sum([]byte(in)); hex.EncodeToString(sum[:]) != want {
			t.Errorf("Sum(%q): %x, want %s", in, sum, want)
		}
	}
	sum := snap.Sum(bytes.Repeat([]byte("a"), 1000000))
	if hex.EncodeToString(sum[:]) != "cdc76e5c9914fb9281a1c7e284d73e67f1809a48a497200e046d39ccc7112cd0" {
		t.Errorf("a million a: %x", sum)
	}
}

func TestP6_1EveryBitCounts(t *testing.T) {
	b := make([]byte, 119)
	seen := map[api.Hash]int{snap.Sum(b): -1}
	for bit := range 8 * len(b) {
		b[bit/8] ^= 1 << (bit % 8)
		sum := snap.Sum(b)
		if other, ok := seen[sum]; ok {
			t.Errorf("the bits %d and %d lead to one sum", bit, other)
		}
		if sum != api.Hash(sha256.Sum256(b)) {
			t.Errorf("bit %d: %x", bit, sum)
		}
		seen[sum] = bit
		b[bit/8] ^= 1 << (bit % 8)
	}
}

// Behind 2^29 bytes the number of bits needs more than 32 of them.
func TestP6_1ManyBytes(t *testing.T) {
	if testing.Short() {
		t.Skip("takes some seconds")
	}
	t.Parallel()
	d := &dice{2}
	piece := d.bytes(1 << 20)
	h, second := snap.New(), sha256.New()
	for range 1 << 9 {
		h.Write(piece)
		second.Write(piece)
	}
	h.Write(piece[:77])
	second.Write(piece[:77])
	if got := h.Sum(); !bytes.Equal(got[:], second.Sum(nil)) {
		t.Errorf("%x, want %x", got, second.Sum(nil))
	}
}

func TestP6_1EveryCut(t *testing.T) {
	b := (&dice{3}).bytes(200)
	want := api.Hash(sha256.Sum256(b))
	for one := range len(b) + 1 {
		for two := one; two <= len(b); two += 7 {
			h := snap.New()
			h.Write(b[:one])
			h.Write(b[one:two])
			h.Write(b[two:])
			if got := h.Sum(); got != want {
				t.Fatalf("cut at %d and %d: %x", one, two, got)
			}
		}
	}
}

func TestP6_1PiecesOfEveryKind(t *testing.T) {
	d := &dice{4}
	for run := range 300 {
		h := snap.New()
		var all []byte
		for range d.below(20) {
			b := d.bytes([]int{0, 1, d.below(10), 55, 56, 63, 64, 65, 128, d.below(300)}[d.below(10)])
			switch d.below(4) {
			case 0:
				h.Write(nil)
			case 1:
				h.Write([]byte{})
			case 2:
				if got := h.Sum(); got != api.Hash(sha256.Sum256(all)) {
					t.Fatalf("run %d, behind %d bytes: %x", run, len(all), got)
				}
			}
			h.Write(b)
			all = append(all, b...)
		}
		for range 2 { // asked twice it tells the same
			if got := h.Sum(); got != api.Hash(sha256.Sum256(all)) {
				t.Fatalf("run %d, %d bytes: %x", run, len(all), got)
			}
		}
	}
}

func TestP6_1WrittenByteByByte(t *testing.T) {
	b := (&dice{5}).bytes(300)
	h := snap.New()
	for i := range b {
		h.Write(b[i : i+1])
		if got := h.Sum(); got != api.Hash(sha256.Sum256(b[:i+1])) {
			t.Fatalf("behind %d bytes: %x", i+1, got)
		}
	}
}

func TestP6_1NoHasher(t *testing.T) {
	var none *snap.Hasher
	plain := &snap.Hasher{}
	for _, h := range []*snap.Hasher{none, plain, new(snap.Hasher)} {
		for range 2 {
			if h.Sum() != (api.Hash{}) {
				t.Errorf("Sum of none: %x", h.Sum())
			}
			h.Write([]byte("abc"))
			h.Write(make([]byte, 64))
		}
	}
	if *plain != (snap.Hasher{}) {
		t.Error("a Hasher that New did not make has taken bytes")
	}
}

func TestP6_1HashersAreTheirOwn(t *testing.T) {
	a, b := snap.New(), snap.New()
	a.Write(make([]byte, 100))
	b.Write([]byte("abc"))
	if b.Sum() != snap.Sum([]byte("abc")) || a.Sum() != snap.Sum(make([]byte, 100)) {
		t.Error("two Hashers share something")
	}
	if snap.New().Sum() != snap.Sum(nil) {
		t.Error("a new Hasher does not begin anew")
	}
}

func TestP6_1NothingKeptOrChanged(t *testing.T) {
	b := (&dice{6}).bytes(90)
	was := bytes.Clone(b)
	h := snap.New()
	h.Write(b)
	snap.Sum(b)
	if !bytes.Equal(b, was) {
		t.Error("what was handed in has changed")
	}
	clear(b)
	if h.Sum() != snap.Sum(was) {
		t.Error("what was handed in is kept")
	}
}

func TestP6_1ManyAtOnce(t *testing.T) {
	data := (&dice{7}).bytes(5000)
	sum, root := snap.Sum(data), snap.Root(data)
	var all sync.WaitGroup
	for range 8 {
		all.Go(func() {
			for range 20 {
				if snap.Sum(data) != sum || snap.Root(data) != root {
					t.Error("another sum beside others")
				}
			}
		})
	}
	all.Wait()
}
