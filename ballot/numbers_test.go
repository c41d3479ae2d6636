package ballot_test

import (
	"math"
	"slices"
	"testing"

	"quorum/api"
	"quorum/ballot"
)

func TestP9_6Window(t *testing.T) {
	for _, c := range []api.Config{small(), narrow(), wide()} {
		g := group(t, c)
		edge := c.MaxSlot - c.Window
		for low, want := range map[uint64]uint64{
			0: c.Window, edge: c.MaxSlot, edge + 1: c.MaxSlot, c.MaxSlot: c.MaxSlot, c.MaxSlot + 1: c.MaxSlot,
			math.MaxUint64: c.MaxSlot, math.MaxUint64 - c.Window: c.MaxSlot, math.MaxUint64 - c.Window + 1: c.MaxSlot,
		} {
			if got := g.High(low); got != want {
				t.Errorf("MaxSlot %d: High(%d) is %d, want %d", c.MaxSlot, low, got, want)
			}
		}
	}
	g := group(t, wide())
	if got := g.High(1<<40 - 9); got != 1<<40-1 {
		t.Errorf("a window that ends below MaxSlot ends at %d", got)
	}
}

// A window that is wider than all slots ends with them.
func TestP9_6WindowAboveSlots(t *testing.T) {
	c := small()
	c.MaxSlot = 3
	g := group(t, c)
	for low := range uint64(6) {
		if g.High(low) != 3 {
			t.Errorf("High(%d) is %d", low, g.High(low))
		}
	}
}

func TestP9_6Inside(t *testing.T) {
	g := group(t, small())
	for _, c := range []struct {
		low, slot uint64
		want      bool
	}{
		{0, 0, true}, {0, 7, true}, {0, 8, false}, {3, 2, false}, {3, 3, true}, {3, 10, true}, {3, 11, false},
		{12, 19, true}, {12, 20, false}, {15, 19, true}, {15, 20, false}, {19, 19, true}, {19, 18, false},
		{20, 20, false}, {20, 19, false}, {30, 30, false}, {30, 19, false}, {30, 20, false},
		{math.MaxUint64, math.MaxUint64, false}, {math.MaxUint64, 0, false}, {math.MaxUint64 - 3, 2, false}, {0, math.MaxUint64, false},
	} {
		if got := g.Inside(c.low, c.slot); got != c.want {
			t.Errorf("Inside(%d, %d) is %v", c.low, c.slot, got)
		}
	}
}

func TestP9_8Add(t *testing.T) {
	const top = math.MaxUint64
	for _, c := range []struct{ a, b, most, want uint64 }{
		{0, 0, 0, 0}, {0, 0, 5, 0}, {2, 3, 9, 5}, {2, 6, 9, 8}, {2, 7, 9, 9}, {2, 8, 9, 9}, {7, 0, 5, 5}, {0, 7, 5, 5}, {1, 0, 0, 0},
		{top, 0, top, top}, {top - 1, 1, top, top}, {top, 1, top, top}, {top, top, top, top}, {top, 2, 5, 5}, {top, 1, 0, 0},
		{1 << 63, 1 << 63, 7, 7}, {1 << 63, 1<<63 - 1, top, top}, {1 << 62, 1 << 62, top, 1 << 63},
	} {
		if got := ballot.Add(c.a, c.b, c.most); got != c.want {
			t.Errorf("Add(%d, %d, %d): %d, want %d", c.a, c.b, c.most, got, c.want)
		}
	}
}

func TestP9_8Mark(t *testing.T) {
	for _, c := range []struct {
		marks []uint64
		want  []uint64 // for k from 1 on
	}{
		{[]uint64{7}, []uint64{7}},
		{[]uint64{0, 0, 0}, []uint64{0, 0, 0}},
		{[]uint64{8, 0, 4}, []uint64{8, 4, 0}},
		{[]uint64{1, 2, 3, 4, 5}, []uint64{5, 4, 3, 2, 1}},
		{[]uint64{3, 3, 1, 3, 9, 1}, []uint64{9, 3, 3, 3, 1, 1}},
		{[]uint64{math.MaxUint64, 1 << 63, 1<<63 - 1, 0}, []uint64{math.MaxUint64, 1 << 63, 1<<63 - 1, 0}},
	} {
		was := slices.Clone(c.marks)
		for i, want := range c.want {
			if got, err := ballot.Mark(c.marks, i+1); got != want || err != nil {
				t.Errorf("Mark(%v, %d): %d %v, want %d", c.marks, i+1, got, err, want)
			}
		}
		for _, k := range []int{0, -1, len(c.marks) + 1, math.MinInt, math.MaxInt} {
			got, err := ballot.Mark(c.marks, k)
			isFault(t, "Mark", err, api.ErrBallotRank, 0)
			if got != 0 {
				t.Errorf("Mark(%v, %d): %d beside a refusal", c.marks, k, got)
			}
		}
		if !slices.Equal(c.marks, was) {
			t.Errorf("the marks are %v, were %v", c.marks, was)
		}
	}
	for _, none := range [][]uint64{nil, {}} {
		for _, k := range []int{-1, 0, 1} {
			_, err := ballot.Mark(none, k)
			isFault(t, "Mark of none", err, api.ErrBallotRank, 0)
		}
	}
}

// The spare room behind the marks is not theirs.
func TestP9_8MarkSpareRoom(t *testing.T) {
	room := []uint64{4, 9, 1, 99, 98}
	if got, err := ballot.Mark(room[:3], 1); got != 9 || err != nil {
		t.Errorf("Mark: %d %v", got, err)
	}
	if !slices.Equal(room, []uint64{4, 9, 1, 99, 98}) {
		t.Errorf("the room is %v", room)
	}
}
