package cluster_test

import (
	"math"
	"testing"

	"quorum/api"
)

// value is what a field of an event is set to, and the kinds of events in which it may be so.
type value struct {
	set  func(*api.Event)
	what string
	may  []api.EventKind
}

// kinds are all kinds of events.
func kinds(but ...api.EventKind) []api.EventKind {
	var list []api.EventKind
kinds:
	for k := api.EDeliver; k <= api.EFuse; k++ {
		for _, b := range but {
			if k == b {
				continue kinds
			}
		}
		list = append(list, k)
	}
	return list
}

// good is an event of a kind that may be.
func good(kind api.EventKind) api.Event {
	e := api.Event{Kind: kind}
	switch kind {
	case api.EForge, api.ESend, api.EAgain:
		e.Client = 256
	}
	return e
}

// values are those of each field, by its number; of three replicas and the client 256.
func values() [7][]value {
	node := func(n int, may ...api.EventKind) value {
		return value{func(e *api.Event) { e.Node = n }, "Node", may}
	}
	client := func(id uint64, may ...api.EventKind) value {
		return value{func(e *api.Event) { e.Client = id }, "Client", may}
	}
	index := func(at int, may ...api.EventKind) value {
		return value{func(e *api.Event) { e.Index = at }, "Index", may}
	}
	count := func(n uint64, may ...api.EventKind) value {
		return value{func(e *api.Event) { e.Count = n }, "Count", may}
	}
	data := func(b []byte, may ...api.EventKind) value {
		return value{func(e *api.Event) { e.Data = b }, "Data", may}
	}
	tears := func(list []api.WalTear, may ...api.EventKind) value {
		return value{func(e *api.Event) { e.Tears = list }, "Tears", may}
	}
	const (
		cp, fg, tk, st, so, cr, rs = api.ECopy, api.EForge, api.ETick, api.EStep, api.EStop, api.ECrash, api.ERestart
		sd, ag, cm, fu, de, dr     = api.ESend, api.EAgain, api.ECalm, api.EFuse, api.EDeliver, api.EDrop
	)
	return [7][]value{
		1: {node(0, kinds()...), node(1, fg, tk, st, so, cr, rs, fu), node(2, fg, tk, st, so, cr, rs, fu), node(3), node(-1, tk), node(-2), node(256), node(math.MaxInt), node(math.MinInt)},
		2: {client(0, kinds(fg, sd, ag)...), client(1), client(255), client(256, fg, sd, ag), client(257, fg), client(most, fg)},
		3: {index(0, kinds()...), index(1, de, dr, cp), index(4096, de, dr, cp), index(math.MaxInt, de, dr, cp), index(-1), index(math.MinInt)},
		4: {count(0, kinds()...), count(1, tk, st, cm, fu), count(10000, tk, st, cm, fu), count(10001, tk, cm), count(20000, tk, cm), count(20001, tk), count(1<<40, tk), count(1<<40 + 1), count(1 << 63), count(most)},
		5: {data(nil, kinds()...), data([]byte{}, kinds()...), data(make([]byte, 1), fg, sd), data(make([]byte, 700), fg, sd), data(make([]byte, 701), fg), data(make([]byte, 65507), fg), data(make([]byte, 65508))},
		6: {tears(nil, kinds()...), tears([]api.WalTear{}, kinds()...), tears(make([]api.WalTear, 1), cr, fu), tears(make([]api.WalTear, 64), cr, fu), tears(make([]api.WalTear, 65))},
	}
}

// mayBe tells whether a kind of event may have that value.
func (v value) mayBe(kind api.EventKind) bool {
	for _, k := range v.may {
		if k == kind {
			return true
		}
	}
	return false
}

// Every kind of event with every value of every field alone; and with one of a second field that may not be: the first field is told.
func TestP16_2Refusals(t *testing.T) {
	s := example()
	c := begun(t, s)
	do(t, c, send(256, 1))
	was, fields := lookAt(c, s), values()
	for _, kind := range kinds() {
		for at, list := range fields {
			for i, v := range list {
				e := good(kind)
				v.set(&e)
				if v.mayBe(kind) {
					if _, err := begun(t, s).Do(e); err != nil {
						t.Errorf("kind %d, %s %d: %v", kind, v.what, i, err)
					}
					continue
				}
				for _, later := range fields[at:] {
					for _, w := range later {
						more := e
						w.set(&more)
						v.set(&more)
						seen, err := c.Do(more)
						isFault(t, v.what, err, api.ErrClusterEvent, at)
						if seen != nil {
							t.Errorf("kind %d, %s: seen %+v", kind, v.what, seen)
						}
					}
				}
			}
		}
	}
	if got := lookAt(c, s); !same(got, was) {
		t.Errorf("a refused event has changed the cluster: %+v, was %+v", got, was)
	}
	for i, s := range do(t, c, send(256)) { // refused events have no place
		if s.Event != 1 {
			t.Errorf("seen %d of the second event: %+v", i, s)
		}
	}
}

// A kind that is none is told ahead of all fields.
func TestP16_2Kinds(t *testing.T) {
	c := begun(t, example())
	for _, kind := range []api.EventKind{0, -1, 14, 256, 1 << 32, math.MaxInt, math.MinInt} {
		for _, e := range []api.Event{{}, {Node: 9}, {Client: 1, Index: -1, Count: most, Data: make([]byte, 70000), Tears: make([]api.WalTear, 99)}} {
			e.Kind = kind
			seen, err := c.Do(e)
			isFault(t, "no kind", err, api.ErrClusterEvent, 0)
			if seen != nil {
				t.Errorf("kind %d: seen %+v", kind, seen)
			}
		}
	}
}

// There are 4096 events at most; those that were refused do not count, those of which nothing came do.
func TestP16_2Long(t *testing.T) {
	s := example()
	c := begun(t, s)
	for i := range 4096 {
		if i%5 == 0 {
			if _, err := c.Do(step(3, 0)); err == nil {
				t.Fatal("not refused")
			}
		}
		do(t, c, one(&dice{uint64(i)}, deliver(9999), step(0, 0), calm(0), again(256), restart(0)))
	}
	for _, e := range []api.Event{calm(0), {}, step(3, 0), send(256)} {
		was := lookAt(c, s)
		seen, err := c.Do(e)
		isFault(t, "event 4097", err, api.ErrClusterLong, 4096)
		if seen != nil || !same(lookAt(c, s), was) {
			t.Errorf("event 4097: seen %+v", seen)
		}
	}
}

// Where New gave a cluster its first and its last event are told apart by their places.
func TestP16_2Places(t *testing.T) {
	c := begun(t, example())
	for i := range 4096 {
		e, want := calm(0), 0
		if i%1365 == 0 {
			e, want = send(256, 1), 4
		}
		seen := do(t, c, e)
		if len(seen) != want {
			t.Fatalf("event %d: seen %+v", i, seen)
		}
		for _, s := range seen {
			if s.Event != i {
				t.Fatalf("event %d has the place %d", i, s.Event)
			}
		}
	}
}
