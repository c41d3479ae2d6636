package snap_test

import (
	"bytes"
	"encoding/hex"
	"slices"
	"testing"

	"quorum/api"
	"quorum/snap"
)

// The chapter's examples, line by line.

func TestExampleSums(t *testing.T) {
	for in, want := range map[string]string{
		"":    "e3b0c44298fc1c149afbf4c8996fb92427ae41e4649b934ca495991b7852b855",
		"abc": "ba7816bf8f01cfea414140de5dae2223b00361a396177a9cb410ff61f20015ad",
	} {
		if sum := snap.Sum([]byte(in)); hex.EncodeToString(sum[:]) != want {
			t.Errorf("Sum(%q): %x, want %s", in, sum, want)
		}
	}
}

func TestExampleChunks(t *testing.T) {
	var got []int
	for _, size := range []int{-1, 0, 1, 1024, 1025, 40000} {
		got = append(got, snap.Chunks(size))
	}
	if !slices.Equal(got, []int{0, 1, 1, 1, 2, 40}) {
		t.Errorf("Chunks: %v", got)
	}
}

func TestExamplePathLengths(t *testing.T) {
	lengths := func(size int) []int {
		var list []int
		data := make([]byte, size)
		for i := range snap.Chunks(size) {
			p, err := snap.Path(data, i)
			if err != nil {
				t.Fatal(err)
			}
			list = append(list, len(p))
		}
		return list
	}
	if got := lengths(5000); !slices.Equal(got, []int{3, 3, 3, 3, 1}) {
		t.Errorf("of 5000 bytes: %v", got)
	}
	if got := lengths(40000); !slices.Equal(got, slices.Concat(slices.Repeat([]int{6}, 32), slices.Repeat([]int{4}, 8))) {
		t.Errorf("of 40000 bytes: %v", got)
	}
}

func TestExamplePackOfNothing(t *testing.T) {
	b, err := snap.Pack(api.Image{})
	if want := append([]byte{0x51, 0x53, 0x4e, 0x50, 1}, make([]byte, 10)...); err != nil || !bytes.Equal(b, want) {
		t.Errorf("Pack: % x, %v, want % x", b, err, want)
	}
}
