package ballot_test

import (
	"math/big"
	"slices"
	"testing"

	"quorum/api"
	"quorum/ballot"
)

// A second, plainer way to each answer: lists that are gone through, numbers without bounds, one bool a replica.

// ladder gives all ballots of that F up to that number, rising.
func ladder(f int, most uint64) []api.Ballot {
	list := []api.Ballot{{}}
	for num := uint64(1); num <= most; num++ {
		for node := range 2*f + 1 {
			list = append(list, bal(num, node))
		}
	}
	return list
}

func TestP9_4And5Ladder(t *testing.T) {
	for f := 1; f <= api.MaxF; f++ {
		for most := uint64(1); most <= 7; most++ {
			climb(t, sized(t, f, most), ladder(f, most))
		}
	}
}

// climb wants a group to tell each ballot of the ladder, what is next above, and each replica's own.
func climb(t *testing.T, g *ballot.Group, all []api.Ballot) {
	t.Helper()
	for at, b := range all {
		if !g.Valid(b) {
			t.Errorf("%v is not valid", b)
		}
		if n, err := g.Rank(b); n != uint64(at) || err != nil {
			t.Errorf("Rank(%v): %d %v, want %d", b, n, err, at)
		}
		back, err := g.Ranked(uint64(at))
		isBallot(t, "Ranked", back, err, b, api.OK, 0)
		above := all[at+1:]
		next, err := g.Next(b)
		if len(above) == 0 {
			isBallot(t, "Next", next, err, bal(0, 0), api.ErrBallotEnd, 0)
		} else {
			isBallot(t, "Next", next, err, above[0], api.OK, 0)
		}
		for node := range g.Nodes() {
			own, err := g.Own(b, node)
			i := slices.IndexFunc(above, func(x api.Ballot) bool { return x.Node == node })
			if i < 0 {
				isBallot(t, "Own", own, err, bal(0, 0), api.ErrBallotEnd, 0)
			} else {
				isBallot(t, "Own", own, err, above[i], api.OK, 0)
			}
		}
	}
	_, err := g.Ranked(uint64(len(all)))
	isFault(t, "Ranked behind all", err, api.ErrBallotRank, 0)
}

func great(n uint64) *big.Int { return new(big.Int).SetUint64(n) }

// upTo adds in true numbers, and takes the lesser of the sum and the bound.
func upTo(a, b, most uint64) uint64 {
	sum := new(big.Int).Add(great(a), great(b))
	if sum.Cmp(great(most)) > 0 {
		return most
	}
	return sum.Uint64()
}

func TestP9_6And8TrueNumbers(t *testing.T) {
	d := &dice{state: 9}
	bounded, inside := 0, 0
	for range 100_000 {
		a, b := d.number(), d.number()
		most := d.number(a+b, a, b)
		got := ballot.Add(a, b, most)
		if want := upTo(a, b, most); got != want {
			t.Fatalf("Add(%d, %d, %d): %d, want %d", a, b, most, got, want)
		}
		if got == most {
			bounded++
		}
		c := small()
		c.Window, c.Every, c.MaxSlot = uint64(1+d.below(8)), 1, one(d, uint64(1), 5, 20, 1<<40)
		g := group(t, c)
		low := d.number(c.MaxSlot, c.MaxSlot-c.Window)
		high := upTo(low, c.Window, c.MaxSlot)
		slot := d.number(low, high, high)
		if g.High(low) != high {
			t.Fatalf("Window %d, MaxSlot %d: High(%d) is %d, want %d", c.Window, c.MaxSlot, low, g.High(low), high)
		}
		in := great(low).Cmp(great(slot)) <= 0 && great(slot).Cmp(great(high)) < 0
		if g.Inside(low, slot) != in {
			t.Fatalf("Window %d, MaxSlot %d: Inside(%d, %d) is not %v", c.Window, c.MaxSlot, low, slot, in)
		}
		if in {
			inside++
		}
	}
	if bounded < 1000 || inside < 1000 {
		t.Errorf("%d sums at their bound, %d slots inside: the run says too little", bounded, inside)
	}
}

// place tells whether v is the k-th highest: fewer than k are above it, and at least k are not below it.
func place(marks []uint64, v uint64, k int) bool {
	above, notBelow := 0, 0
	for _, m := range marks {
		if m > v {
			above++
		}
		if m >= v {
			notBelow++
		}
	}
	return above < k && k <= notBelow && slices.Contains(marks, v)
}

func TestP9_8MarkByCounting(t *testing.T) {
	d := &dice{state: 10}
	for range 20_000 {
		marks := make([]uint64, 1+d.below(9))
		for i := range marks {
			marks[i] = d.number()
			if i > 0 && d.below(3) == 0 {
				marks[i] = marks[d.below(i)]
			}
		}
		was := slices.Clone(marks)
		k := 1 + d.below(len(marks))
		if v, err := ballot.Mark(marks, k); err != nil || !place(marks, v, k) {
			t.Fatalf("Mark(%v, %d): %d %v", marks, k, v, err)
		}
		if !slices.Equal(marks, was) {
			t.Fatalf("the marks are %v, were %v", marks, was)
		}
	}
}

// seats is a set with one bool a number.
type seats [32]bool

func seated(s api.NodeSet) (l seats) {
	for n := range l {
		l[n] = s&(1<<n) != 0
	}
	return l
}

func (l seats) members() []int {
	var m []int
	for n, in := range l {
		if in {
			m = append(m, n)
		}
	}
	return m
}

func TestP9_7Seats(t *testing.T) {
	d := &dice{state: 11}
	for range 20_000 {
		a, b := api.NodeSet(d.number()), api.NodeSet(d.number())
		x, y := seated(a), seated(b)
		if got := slices.Collect(ballot.Members(a)); !slices.Equal(got, x.members()) || ballot.Count(a) != len(got) {
			t.Fatalf("Members(%b): %v, Count %d", a, got, ballot.Count(a))
		}
		cross := slices.IndexFunc(x.members(), func(n int) bool { return y[n] })
		if cross >= 0 {
			cross = x.members()[cross]
		}
		if got := ballot.Cross(a, b); got != cross {
			t.Fatalf("Cross(%b, %b): %d, want %d", a, b, got, cross)
		}
		node := d.below(40) - 4
		has := node >= 0 && node < 32 && x[node]
		if node >= 0 && node < 32 {
			x[node] = true
		}
		if ballot.Has(a, node) != has || seated(ballot.With(a, node)) != x {
			t.Fatalf("Has(%b, %d) %v, With %b", a, node, ballot.Has(a, node), ballot.With(a, node))
		}
	}
}

// plainTally has its keys in a list, and one bool a replica.
type plainTally[K comparable] struct {
	f    int
	rows []row[K]
}

type row[K comparable] struct {
	key K
	has [7]bool
}

func (p *plainTally[K]) at(k K) int {
	return slices.IndexFunc(p.rows, func(r row[K]) bool { return r.key == k })
}

func (p *plainTally[K]) speak(k K, node int) (int, api.Errno) {
	if node < 0 || node > 2*p.f {
		return 0, api.ErrBallotNode
	}
	at := p.at(k)
	if at < 0 {
		if len(p.rows) == 64 {
			return 0, api.ErrBallotFull
		}
		at = len(p.rows)
		p.rows = append(p.rows, row[K]{key: k})
	}
	p.rows[at].has[node] = true
	_, many := p.told(k)
	return many, api.OK
}

func (p *plainTally[K]) told(k K) (set api.NodeSet, many int) {
	at := p.at(k)
	if at < 0 {
		return 0, 0
	}
	for node, in := range p.rows[at].has {
		if in {
			set += 1 << node
			many++
		}
	}
	return set, many
}

func (p *plainTally[K]) drop(k K) {
	if at := p.at(k); at >= 0 {
		p.rows = slices.Delete(p.rows, at, at+1)
	}
}

func TestP9_9LongRuns(t *testing.T) {
	type slotted struct {
		bal  api.Ballot
		slot uint64
	}
	for f := 1; f <= api.MaxF; f++ {
		longRun(t, f, func(d *dice) uint64 { return uint64(d.below(80)) })
		longRun(t, f, func(d *dice) api.Ballot { return bal(uint64(d.below(12)), d.below(7)) })
		longRun(t, f, func(d *dice) slotted { return slotted{bal(1, d.below(3)), uint64(d.below(26))} })
	}
}

// longRun holds two tallies of one group against two plain ones, and wants all answers to come up.
func longRun[K comparable](t *testing.T, f int, key func(*dice) K) {
	t.Helper()
	d := &dice{state: uint64(f)}
	g := sized(t, f, 5)
	tallies := []*ballot.Tally[K]{ballot.NewTally[K](g), ballot.NewTally[K](g)}
	plain := []*plainTally[K]{{f: f}, {f: f}}
	seen := map[api.Errno]int{}
	reached, fresh := 0, 0
	for range 30_000 {
		i, k := d.below(2), key(d)
		l, p := tallies[i], plain[i]
		if d.below(12) == 0 {
			l.Drop(k)
			p.drop(k)
		} else {
			node := d.below(2*f+3) - 1
			many, code := l.Speak(k, node)
			if wantMany, want := p.speak(k, node); many != wantMany || code != want {
				t.Fatalf("Speak(%v, %d): %d %d, want %d %d", k, node, many, code, wantMany, want)
			}
			seen[code]++
		}
		set, many := p.told(k)
		if l.Nodes(k) != set || l.Reached(k) != (many > f) || l.Len() != len(p.rows) {
			t.Fatalf("key %v: %b, %v, %d keys; want %b, %v, %d", k, l.Nodes(k), l.Reached(k), l.Len(), set, many > f, len(p.rows))
		}
		if many > f {
			reached++
		} else {
			fresh++
		}
	}
	for _, code := range []api.Errno{api.OK, api.ErrBallotNode, api.ErrBallotFull} {
		if seen[code] < 20 {
			t.Errorf("F %d: %d came up %d times: the run says too little", f, code, seen[code])
		}
	}
	if reached < 20 || fresh < 20 {
		t.Errorf("F %d: reached %d times, not reached %d times: the run says too little", f, reached, fresh)
	}
}
