package wal

import (
	"bytes"
	"testing"

	"quorum/api"
)

// TestP8_6LastIndex reads on from the greatest index that a frame has. It looks inside the package: by Scan the frames ahead of that one would be 34 GB.
func TestP8_6LastIndex(t *testing.T) {
	last, err := Frame(maxIndex, []byte("z"))
	if err != nil {
		t.Fatal(err)
	}
	past := appendFrame(nil, maxIndex+1, nil)
	for _, c := range []struct {
		what   string
		index  int
		data   []byte
		bodies []string
		size   int
	}{
		{"the last one", maxIndex, last, []string{"z"}, len(last)},
		{"the last one, and one past it", maxIndex, append(bytes.Clone(last), past...), []string{"z"}, len(last)},
		{"the last one twice", maxIndex, append(bytes.Clone(last), last...), []string{"z"}, len(last)},
		{"one past it", maxIndex + 1, past, nil, 0},
		{"one whose index does not go into its four bytes", 1 << 32, appendFrame(nil, 0, nil), nil, 0},
	} {
		bodies, size := wholeFrames(c.index, c.data)
		if len(bodies) != len(c.bodies) || size != c.size {
			t.Errorf("%s: %q of %d bytes, want %q of %d", c.what, bodies, size, c.bodies, c.size)
			continue
		}
		for i, b := range bodies {
			if string(b) != c.bodies[i] {
				t.Errorf("%s: body %d is %q", c.what, i, b)
			}
		}
	}
}

// TestP8_6NoFrame: what has no frame is told alike to who writes and to who reads.
func TestP8_6NoFrame(t *testing.T) {
	for _, c := range []struct {
		index int
		size  uint64
		why   api.Errno
	}{
		{0, 0, api.OK}, {maxIndex, api.MaxBody, api.OK},
		{-1, 0, api.ErrArg}, {maxIndex + 1, 0, api.ErrArg}, {-1, api.MaxBody + 1, api.ErrArg},
		{0, api.MaxBody + 1, api.ErrWalLong}, {maxIndex, 1<<32 - 1, api.ErrWalLong},
	} {
		if why := noFrame(c.index, c.size); why != c.why {
			t.Errorf("index %d, size %d: %d, want %d", c.index, c.size, why, c.why)
		}
	}
}
