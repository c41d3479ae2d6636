package cluster_test

import (
	"errors"
	"runtime"
	"testing"
	"time"

	"quorum/api"
	"quorum/cluster"
)

// drawn gives a script of so many events, and what is seen of it event by event.
func drawn(t testing.TB, s api.Setup, seed uint64, events int) ([]api.Event, [][]api.Seen) {
	t.Helper()
	c := begun(t, s)
	d := newChaos(t, s, c, seed)
	var script []api.Event
	var seen [][]api.Seen
	for range events {
		e := d.event()
		script, seen = append(script, e), append(seen, do(t, c, e))
	}
	return script, seen
}

// Run is New, then Do of each event; what is seen of a script's beginning is the beginning of what is seen of it.
func TestP16_5Run(t *testing.T) {
	for at, s := range shapes() {
		script, seen := drawn(t, s, uint64(at), 700)
		var all []api.Seen
		for i := range script {
			all = append(all, seen[i]...)
			if i%350 != 349 {
				continue
			}
			if got, err := cluster.Run(s, script[:i+1]); err != nil || !same(got, all) {
				t.Fatalf("shape %d: Run of %d events: %d seen, want %d (%v)", at, i+1, len(got), len(all), err)
			}
		}
	}
	for what, script := range map[string][]api.Event{"no script": nil, "an empty script": {}, "nothing happens": {calm(0), deliver(3)}} {
		if got, err := cluster.Run(example(), script); got != nil || err != nil {
			t.Errorf("%s: %v, %v", what, got, err)
		}
	}
}

func TestP16_5Refusals(t *testing.T) {
	for what, turn := range badConfigs() {
		s := with(turn)
		_, why := cluster.New(s)
		seen, err := cluster.Run(s, []api.Event{{}})
		if seen != nil || err == nil || !same(err, why) {
			t.Errorf("%s: %v, %v, want %v", what, seen, err, why)
		}
	}
	for what, bad := range badClients() {
		seen, err := cluster.Run(with(bad.turn), nil)
		isFault(t, what, err, api.ErrClusterClients, 1+bad.at)
		if seen != nil {
			t.Errorf("%s: seen %+v", what, seen)
		}
	}
	for at, x := range []struct {
		bad  api.Event
		want int
	}{{api.Event{}, 0}, {step(3, 0), 1}, {send(700), 2}, {deliver(-1), 3}, {calm(20001), 4}, {send(256, make([]byte, 701)...), 5}, {crash(0, make([]api.WalTear, 65)...), 6}} {
		script := []api.Event{send(256, transfer(1)...), calm(3), calm(0), stop(2), again(256), step(0, 3), tick(-1, 4)}
		script = append(script[:at], x.bad, step(9, 9))
		seen, err := cluster.Run(example(), script)
		isFault(t, "an event that may not be", err, &api.Fault{Layer: "cluster", At: x.want, Err: api.ErrClusterEvent}, at)
		if seen != nil || !errors.Is(err, api.ErrClusterEvent) {
			t.Errorf("seen %+v, %v", seen, err)
		}
	}
	long := make([]api.Event, 4097)
	for i := range long {
		long[i] = calm(0)
	}
	if seen, err := cluster.Run(example(), long[:4096]); seen != nil || err != nil {
		t.Errorf("4096 events: %v, %v", seen, err)
	}
	_, err := cluster.Run(example(), long)
	isFault(t, "4097 events", err, &api.Fault{Layer: "cluster", At: 4096, Err: api.ErrClusterLong}, 4096)
}

// What there is not to be looked at.
func TestP16_4NoSuch(t *testing.T) {
	c, _ := led(t, example())
	for _, n := range []int{-1, 3, 7, 256, 1 << 32, -1 << 62} {
		if k := c.Node(n); !same(k, api.NodeLook{}) {
			t.Errorf("Node(%d): %+v", n, k)
		}
		if d := c.Disk(n); !same(d, api.DiskImage{}) {
			t.Errorf("Disk(%d): %+v", n, d)
		}
	}
	for _, id := range []uint64{0, 1, 255, 257, 300, most} {
		if k := c.Client(id); !same(k, api.ClientLook{}) {
			t.Errorf("Client(%d): %+v", id, k)
		}
	}
}

// A cluster that New did not give.
func TestNobody(t *testing.T) {
	for what, c := range map[string]*cluster.Cluster{"nil": nil, "plain": {}} {
		for kind := api.EventKind(-1); kind < 20; kind++ {
			for _, e := range []api.Event{{}, {Client: 256}, {Node: 9, Count: most, Index: -1}} {
				e.Kind = kind
				seen, err := c.Do(e)
				isFault(t, what, err, api.ErrZero, 0)
				if seen != nil {
					t.Errorf("%s: seen %+v", what, seen)
				}
			}
		}
		if c.Flight() != nil || !same(c.Node(0), api.NodeLook{}) || !same(c.Disk(0), api.DiskImage{}) || !same(c.Client(256), api.ClientLook{}) || !same(c.Client(0), api.ClientLook{}) {
			t.Errorf("%s tells something", what)
		}
	}
}

// When a call answers nothing of it goes on; and how the goroutines run is not to be seen.
func TestNothingGoesOn(t *testing.T) {
	was := runtime.NumGoroutine()
	s := shapes()[4]
	script, seen := drawn(t, s, 5, 500)
	var all []api.Seen
	for _, l := range seen {
		all = append(all, l...)
	}
	for procs := 1; procs < 9; procs *= 2 {
		old := runtime.GOMAXPROCS(procs)
		if got, err := cluster.Run(s, script); err != nil || !same(got, all) {
			t.Errorf("with %d at a time: %d seen, want %d (%v)", procs, len(got), len(all), err)
		}
		runtime.GOMAXPROCS(old)
	}
	for range 100 { // one that has told its end may be a moment on its way
		if runtime.NumGoroutine() <= was {
			return
		}
		time.Sleep(time.Millisecond)
	}
	t.Errorf("%d goroutines, were %d", runtime.NumGoroutine(), was)
}
