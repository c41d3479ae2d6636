package ballot_test

import (
	"math"
	"testing"

	"quorum/api"
	"quorum/ballot"
)

// field is one of a configuration, its bounds in small(), and how it is set.
type field struct {
	name        string
	least, most uint64
	set         func(*api.Config, uint64)
}

// fieldList has the fields in the order of P9.1.
func fieldList() []field {
	return []field{
		{"F", 1, 3, func(c *api.Config, v uint64) { c.F = int(v) }},
		{"MaxBatch", 1, 8, func(c *api.Config, v uint64) { c.MaxBatch = int(v) }},
		{"Delay", 0, 1000, func(c *api.Config, v uint64) { c.Delay = v }},
		{"Window", 2, 8, func(c *api.Config, v uint64) { c.Window = v }}, // Every is 2
		{"Every", 1, 8, func(c *api.Config, v uint64) { c.Every = v }},   // Window is 8
		{"Beat", 1, 1000, func(c *api.Config, v uint64) { c.Beat = v }},
		{"Epoch", 1, 40, func(c *api.Config, v uint64) { c.Epoch = v }},            // EpochMax is 40
		{"EpochMax", 10, 100000, func(c *api.Config, v uint64) { c.EpochMax = v }}, // Epoch is 10
		{"MaxNum", 1, 1 << 40, func(c *api.Config, v uint64) { c.MaxNum = v }},
		{"MaxSlot", 1, 1 << 40, func(c *api.Config, v uint64) { c.MaxSlot = v }},
	}
}

// newRefuses wants New to refuse a configuration at that field.
func newRefuses(t *testing.T, what string, c api.Config, at int) {
	t.Helper()
	g, err := ballot.New(c)
	isFault(t, what, err, api.ErrBallotConfig, at)
	if g != nil {
		t.Errorf("%s: a group beside a refusal", what)
	}
}

func TestP9_1Bounds(t *testing.T) {
	for at, f := range fieldList() {
		for _, v := range []uint64{f.least, f.least + 1, f.most - 1, f.most} {
			c := small()
			f.set(&c, v)
			if g := group(t, c); g.Config() != c {
				t.Errorf("%s %d: the configuration is %+v", f.name, v, g.Config())
			}
		}
		for _, v := range []uint64{f.most + 1, 1 << 63, math.MaxUint64} {
			c := small()
			f.set(&c, v)
			if f.name == "Epoch" {
				c.EpochMax = v // else it is EpochMax that may not be, not Epoch
				if v == 41 {
					group(t, c)
					continue
				}
			}
			newRefuses(t, f.name, c, at)
		}
		if f.least > 0 {
			c := small()
			f.set(&c, 0)
			newRefuses(t, f.name+" 0", c, at)
		}
	}
}

// The bounds that hang on another field, each on both sides.
func TestP9_1BoundsOfTwoFields(t *testing.T) {
	c := small()
	c.Window = 1
	newRefuses(t, "Every above Window", c, 4)
	c.Every = 1
	group(t, c)
	c.Window, c.Every = 7, 8
	newRefuses(t, "Every 8 above Window 7", c, 4)
	c.Window, c.Every = 9, 9
	newRefuses(t, "Every 9, Window 9", c, 3)
	c = small()
	c.EpochMax = 9
	newRefuses(t, "EpochMax below Epoch", c, 7)
	c.EpochMax = 10
	group(t, c)
	c.Epoch, c.EpochMax = 10000, 10000
	group(t, c)
	c.Epoch, c.EpochMax = 10001, 100000
	newRefuses(t, "Epoch 10001", c, 6)
	c.Epoch, c.EpochMax = 10000, 100001
	newRefuses(t, "EpochMax 100001", c, 7)
	c.Epoch, c.EpochMax = 0, 0
	newRefuses(t, "Epoch and EpochMax 0", c, 6)
}

func TestP9_1BelowNothing(t *testing.T) {
	for _, v := range []int{-1, -2, math.MinInt, math.MinInt + 1, -1 << 32, -1<<32 + 1} {
		c := small()
		c.F = v
		newRefuses(t, "F", c, 0)
		c = small()
		c.MaxBatch = v
		newRefuses(t, "MaxBatch", c, 1)
	}
}

// Where several fields may not be, the first one is told.
func TestP9_1Order(t *testing.T) {
	fs := fieldList()
	for at := range fs {
		for later := at + 1; later < len(fs); later++ {
			c := small()
			fs[at].set(&c, math.MaxUint64)
			fs[later].set(&c, math.MaxUint64)
			newRefuses(t, fs[at].name+" and "+fs[later].name, c, at)
		}
		c := small()
		for _, f := range fs[at:] {
			f.set(&c, math.MaxUint64)
		}
		newRefuses(t, fs[at].name+" and all behind it", c, at)
	}
	newRefuses(t, "the empty configuration", api.Config{}, 0)
}

func TestP9_1Limits(t *testing.T) {
	group(t, wide())
	group(t, narrow())
}

func TestP9_2Told(t *testing.T) {
	for _, c := range []api.Config{small(), wide(), narrow()} {
		for f := 1; f <= api.MaxF; f++ {
			c.F = f
			g := group(t, c)
			if g.Config() != c {
				t.Errorf("Config: %+v, want %+v", g.Config(), c)
			}
			if g.Nodes() != 2*f+1 || g.Quorum() != f+1 {
				t.Errorf("F %d: Nodes %d, Quorum %d", f, g.Nodes(), g.Quorum())
			}
			for n := -3; n < 40; n++ {
				if g.Node(n) != (0 <= n && n <= 2*f) {
					t.Errorf("F %d: Node(%d) is %v", f, n, g.Node(n))
				}
			}
			for _, n := range []int{math.MinInt, math.MaxInt, 1 << 32, -1 << 32} {
				if g.Node(n) {
					t.Errorf("F %d: Node(%d)", f, n)
				}
			}
		}
	}
}

// What is done with the configuration that was handed in, or that was told, does not reach the group.
func TestP9_2GroupsStay(t *testing.T) {
	c := small()
	g, h := group(t, c), group(t, wide())
	told := g.Config()
	c.F, c.Window, told.F, told.MaxNum = 3, 1, 2, 9
	if g.Config() != small() || g.Nodes() != 3 || h.Config() != wide() || h.Nodes() != 7 {
		t.Errorf("the groups are %+v and %+v", g.Config(), h.Config())
	}
}

// Groups that New did not make: nil, and a plain one.
func TestNoGroup(t *testing.T) {
	for what, g := range map[string]*ballot.Group{"nil": nil, "plain": {}} {
		if g.Config() != (api.Config{}) || g.Nodes() != 0 || g.Quorum() != 0 || g.All() != 0 {
			t.Errorf("%s: %+v, %d nodes, quorum %d, all %b", what, g.Config(), g.Nodes(), g.Quorum(), g.All())
		}
		for _, n := range []int{-1, 0, 1, 31} {
			if g.Node(n) {
				t.Errorf("%s: Node(%d)", what, n)
			}
		}
		for _, s := range []api.NodeSet{0, 1, 7, math.MaxUint32} {
			if g.Majority(s) {
				t.Errorf("%s: Majority(%b)", what, s)
			}
		}
		for _, low := range []uint64{0, 1, math.MaxUint64} {
			if g.High(low) != 0 || g.Inside(low, low) || g.Inside(0, low) {
				t.Errorf("%s: High(%d) %d", what, low, g.High(low))
			}
		}
		// The wrong ones too: that the group is none comes ahead of all else.
		for _, b := range []api.Ballot{{}, bal(1, 0), bal(0, 1), bal(9, -1)} {
			if g.Valid(b) {
				t.Errorf("%s: Valid(%v)", what, b)
			}
			next, err := g.Next(b)
			isBallot(t, what+": Next", next, err, bal(0, 0), api.ErrZero, 0)
			for _, node := range []int{0, 7, -1} {
				own, err := g.Own(b, node)
				isBallot(t, what+": Own", own, err, bal(0, 0), api.ErrZero, 0)
			}
			n, err := g.Rank(b)
			isFault(t, what+": Rank", err, api.ErrZero, 0)
			if n != 0 {
				t.Errorf("%s: Rank(%v) %d", what, b, n)
			}
		}
		for _, n := range []uint64{0, 1, math.MaxUint64} {
			b, err := g.Ranked(n)
			isBallot(t, what+": Ranked", b, err, bal(0, 0), api.ErrZero, 0)
		}
		if ballot.NewTally[uint64](g) != nil || ballot.NewTally[api.Ballot](g) != nil {
			t.Errorf("%s: a tally of no group", what)
		}
	}
}
