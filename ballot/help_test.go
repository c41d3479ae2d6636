package ballot_test

import (
	"errors"
	"testing"

	"quorum/api"
	"quorum/ballot"
)

// small is the configuration of the chapter's examples: three replicas, ballots up to {5 2}, slots below 20.
func small() api.Config {
	return api.Config{F: 1, MaxBatch: 2, Delay: 0, Window: 8, Every: 2, Beat: 5, Epoch: 10, EpochMax: 40, MaxNum: 5, MaxSlot: 20}
}

// wide is a configuration with every field at its greatest.
func wide() api.Config {
	return api.Config{F: 3, MaxBatch: 8, Delay: 1000, Window: 8, Every: 8, Beat: 1000, Epoch: 10000, EpochMax: 100000, MaxNum: 1 << 40, MaxSlot: 1 << 40}
}

// narrow is a configuration with every field at its least.
func narrow() api.Config {
	return api.Config{F: 1, MaxBatch: 1, Delay: 0, Window: 1, Every: 1, Beat: 1, Epoch: 1, EpochMax: 1, MaxNum: 1, MaxSlot: 1}
}

// group gives the group of a configuration that is in order.
func group(t testing.TB, c api.Config) *ballot.Group {
	t.Helper()
	g, err := ballot.New(c)
	if g == nil || err != nil {
		t.Fatalf("New(%+v): %v", c, err)
	}
	return g
}

// sized gives a group of that F with ballots up to that number.
func sized(t testing.TB, f int, most uint64) *ballot.Group {
	t.Helper()
	c := small()
	c.F, c.MaxNum = f, most
	return group(t, c)
}

func bal(num uint64, node int) api.Ballot { return api.Ballot{Num: num, Node: node} }

// isFault wants a fault of this layer with just that number and place.
func isFault(t *testing.T, what string, err error, why api.Errno, at int) {
	t.Helper()
	f, ok := err.(*api.Fault)
	if !ok || f == nil {
		t.Errorf("%s: %v is no fault, want %d at %d", what, err, why, at)
		return
	}
	if f.Layer != "ballot" || f.At != at || f.Err != error(why) || !errors.Is(err, why) {
		t.Errorf("%s: refused with %v, want %d at %d", what, err, why, at)
	}
}

// isBallot wants just that answer: a ballot without an error, or none with a fault.
func isBallot(t *testing.T, what string, got api.Ballot, err error, want api.Ballot, why api.Errno, at int) {
	t.Helper()
	if why != api.OK {
		want = api.Ballot{}
		isFault(t, what, err, why, at)
	} else if err != nil {
		t.Errorf("%s: %v", what, err)
	}
	if got != want {
		t.Errorf("%s: %v, want %v", what, got, want)
	}
}

// says wants a tally to answer that.
func says[K comparable](t *testing.T, l *ballot.Tally[K], k K, node, many int, code api.Errno) {
	t.Helper()
	if n, e := l.Speak(k, node); n != many || e != code {
		t.Errorf("Speak(%v, %d): %d %d, want %d %d", k, node, n, e, many, code)
	}
}

// holds wants a tally to tell that of a key.
func holds[K comparable](t *testing.T, l *ballot.Tally[K], k K, set api.NodeSet, reached bool) {
	t.Helper()
	if l.Nodes(k) != set || l.Reached(k) != reached {
		t.Errorf("key %v: %b, reached %v; want %b, %v", k, l.Nodes(k), l.Reached(k), set, reached)
	}
}

// dice gives numbers that look like any, the same ones in every run.
type dice struct{ state uint64 }

func (d *dice) next() uint64 {
	d.state = d.state*6364136223846793005 + 1442695040888963407
	return d.state ^ d.state>>29
}

// below gives a number from 0 to n-1.
func (d *dice) below(n int) int { return int(d.next() >> 3 % uint64(n)) }

func one[E any](d *dice, list ...E) E { return list[d.below(len(list))] }

// number gives one of any size, often one near an edge of 64 bits or near one of those given.
func (d *dice) number(near ...uint64) uint64 {
	switch d.below(4) {
	case 0:
		return one(d, uint64(0), 1<<64-1, 1<<63, 1<<40) + uint64(d.below(5)) - 2
	case 1:
		return one(d, append(near, 0)...) + uint64(d.below(5)) - 2
	case 2:
		return uint64(d.below(30))
	}
	return d.next() >> d.below(64)
}
