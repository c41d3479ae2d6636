package cluster_test

import (
	"testing"

	"quorum/api"
	"quorum/cluster"
)

// isDown wants a replica not to be up: it is so, and has nothing but its clock.
func isDown(t testing.TB, what string, c *cluster.Cluster, node, how int, clock uint64) {
	t.Helper()
	if got := c.Node(node); !same(got, api.NodeLook{How: how, Clock: clock}) {
		t.Errorf("%s: %+v", what, got)
	}
}

// down is what is seen of a replica that goes down.
func down(event, node int) []api.Seen {
	return []api.Seen{{Event: event, Kind: api.SDown, Node: node}}
}

// up is what is seen of a replica that begins again.
func up(event, node int, slot uint64) []api.Seen {
	return []api.Seen{{Event: event, Kind: api.SUp, Node: node, Slot: slot}}
}

func TestP16_2Stop(t *testing.T) {
	c := begun(t, example())
	do(t, c, tick(1, 4), forge(300, 1), deliver(0))
	disk := c.Disk(1)
	isSeen(t, "stop", do(t, c, stop(1)), down(3, 1))
	isDown(t, "stop", c, 1, api.NodeStopped, 4)
	quiet(t, "stopped for good", c, stop(1), restart(1), crash(1, whole(1)), step(1, 30), fuse(1, 0), fuse(1, 9, whole(1)), tick(1, 2), forge(300, 1), deliver(0))
	isDown(t, "stopped for good", c, 1, api.NodeStopped, 6)
	if !same(c.Disk(1), disk) {
		t.Errorf("its disk: %+v, was %+v", c.Disk(1), disk)
	}
	isSeen(t, "crash", do(t, c, crash(2)), down(13, 2))
	quiet(t, "one that is down stops", c, stop(2))
	isDown(t, "one that is down stops", c, 2, api.NodeStopped, 0)
	quiet(t, "one that is down stops", c, restart(2))
	for _, s := range do(t, c, calm(5)) {
		if s.Node == 1 || s.Node == 2 || s.From == 1 || s.From == 2 {
			t.Fatalf("seen of one that has stopped: %+v", s)
		}
	}
	isDown(t, "its clock runs", c, 2, api.NodeStopped, 5)
}

func TestP16_2Crash(t *testing.T) {
	c := begun(t, example())
	quiet(t, "restart of one that is up", c, restart(0))
	do(t, c, tick(0, 9), step(0, 3), forge(300, 0), deliver(3))
	isInbox(t, "ahead of the crash", c, 1)
	isSeen(t, "crash", do(t, c, crash(0)), down(5, 0))
	isDown(t, "crash", c, 0, api.NodeCrashed, 9)
	quiet(t, "crashed", c, crash(0), step(0, 30), deliver(0))
	isDown(t, "crashed", c, 0, api.NodeCrashed, 9)
	isFlight(t, "its packet is lost", c, 0, 1, 0, 2)
	isSeen(t, "restart", do(t, c, tick(0, 2), restart(0)), up(10, 0, 0))
	if k := c.Node(0); k.How != api.NodeUp || k.Clock != 11 || k.Inbox != 0 || k.View != bal(1, 0) {
		t.Errorf("restart: %+v", k)
	}
	quiet(t, "it has begun {1 0}, and never does again", c, step(0, 8))
	if seen := do(t, c, step(0, 2)); !same(seen, sentToAll(t, 12, 0, 3, api.Msg{Kind: api.KBeat, Bal: bal(1, 0)})) {
		t.Errorf("its heartbeat alone: %+v", seen)
	}
}

// A restart begins at the last checkpoint.
func TestP16_2RestartAtACheckpoint(t *testing.T) {
	c, at := led(t, example())
	for i := range 3 {
		do(t, c, send(256, transfer(byte(1+i))...), calm(9))
	}
	at += 6
	was := c.Node(1)
	if was.Slot != 3 || was.Mark != 2 {
		t.Fatalf("not three slots: %+v", was)
	}
	isSeen(t, "crash", do(t, c, crash(1)), down(at, 1))
	isSeen(t, "restart", do(t, c, restart(1)), up(at+1, 1, 2))
	if k := c.Node(1); k.Slot != 2 || k.Mark != 2 || k.Low != was.Low || k.Machine.House.Book.Accounts[1].Balance != 3 {
		t.Errorf("restart: %+v", k)
	}
	do(t, c, calm(20)) // the leader's proposals come again
	if k := c.Node(1); !same(k.Machine, c.Node(0).Machine) || k.Slot != 3 {
		t.Errorf("it runs on: %+v", k)
	}
}

// The disk dies at the write that the fuse says: nothing of that action is sent, and of what it wrote there is left what the tears say.
func TestP16_2Fuse(t *testing.T) {
	start := api.Record{Kind: api.RStart, Bal: bal(1, 0)}
	for _, x := range []struct {
		what  string
		count uint64
		tears []api.WalTear
		down  bool
		kept  []api.Record
	}{
		{"no write", 0, nil, true, nil},
		{"no write, all is kept", 0, []api.WalTear{whole(1)}, true, nil},
		{"Append alone", 1, nil, true, nil},
		{"Append alone, all is kept", 1, []api.WalTear{whole(1)}, true, []api.Record{start}},
		{"Append alone, a part is kept", 1, []api.WalTear{{File: 1, Keep: 5, Flip: -1}}, true, nil},
		{"Append alone, a bit is turned", 1, []api.WalTear{{File: 1, Keep: 1 << 30, Flip: 3}}, true, nil},
		{"Append alone, another file is kept", 1, []api.WalTear{whole(2)}, true, nil},
		{"Append alone, the first tear holds", 1, []api.WalTear{{File: 1}, whole(1)}, true, nil},
		{"Append and Sync", 2, nil, false, []api.Record{start}},
		{"more", 10000, nil, false, []api.Record{start}},
	} {
		c := begun(t, example())
		quiet(t, x.what, c, fuse(0, x.count, x.tears...), tick(0, 4), forge(300, 0), deliver(0))
		seen := do(t, c, step(0, 1), forge(300, 0), deliver(0), step(0, 7))
		img := c.Disk(0)
		if x.down {
			isSeen(t, x.what, seen, down(7, 0))
			isDown(t, x.what, c, 0, api.NodeCrashed, 4)
		} else {
			isSeen(t, x.what, seen, sentToAll(t, 7, 0, 3, api.Msg{Kind: api.KPrepare, Bal: bal(1, 0)}))
		}
		if x.down && img.Fuse != -1 || !x.down && img.Fuse != int(x.count)-2 {
			t.Errorf("%s: the fuse is at %d", x.what, img.Fuse)
		}
		if recs := recordsOf(t, img); !same(recs, x.kept) {
			t.Errorf("%s: kept %+v, want %+v", x.what, recs, x.kept)
		}
		if !x.down {
			continue
		}
		isSeen(t, x.what, do(t, c, restart(0)), up(8, 0, 0))
		seen = do(t, c, step(0, 2))
		if (len(seen) == 0) != (x.kept != nil) {
			t.Errorf("%s: begun again: %+v", x.what, seen)
		}
	}
}

// A restart that meets a dead disk fails: the disk has crashed once more, and lives.
func TestP16_2RestartFails(t *testing.T) {
	c := begun(t, example())
	do(t, c, fuse(0, 1, api.WalTear{File: 1, Keep: 5, Flip: -1}), step(0, 2)) // five bytes of a record are left, to be cut off
	for _, writes := range []uint64{0, 1} {
		quiet(t, "the disk is dead", c, fuse(0, writes, whole(1)), restart(0))
		isDown(t, "the disk is dead", c, 0, api.NodeCrashed, 0)
		if img := c.Disk(0); img.Fuse != -1 {
			t.Errorf("the disk is dead still: %+v", img)
		}
	}
	quiet(t, "just enough", c, fuse(0, 1))
	isSeen(t, "just enough", do(t, c, restart(0)), up(7, 0, 0))
	if img := c.Disk(0); img.Fuse != 0 {
		t.Errorf("the fuse is at %d", img.Fuse)
	}
	isSeen(t, "the next write", do(t, c, step(0, 10)), down(8, 0))
	isSeen(t, "the fuse is off", do(t, c, restart(0)), up(9, 0, 0))
	if seen := do(t, c, step(0, 2)); len(seen) != 3 {
		t.Errorf("the fuse is off: %+v", seen)
	}
}

// A dead disk takes no new fuse, but its tears are those of the last event.
func TestP16_2FuseOfADeadDisk(t *testing.T) {
	c := begun(t, example())
	quiet(t, "dead", c, fuse(0, 1), fuse(0, 0), fuse(0, 100, whole(1)))
	if f := c.Disk(0).Fuse; f != 0 {
		t.Errorf("the fuse is at %d", f)
	}
	isSeen(t, "dead", do(t, c, step(0, 3)), down(3, 0))
	// one that is not dead: the later event holds, in its writes and in its tears
	c = begun(t, example())
	quiet(t, "again", c, fuse(0, 100), fuse(0, 1, whole(1)), step(0, 1))
	isSeen(t, "again", do(t, c, step(0, 1)), down(3, 0))
	if recs := recordsOf(t, c.Disk(0)); len(recs) != 1 {
		t.Errorf("its tears: %+v", recs)
	}
	// the tears of a crash are not the host's
	c = begun(t, example())
	do(t, c, fuse(1, 1, whole(1)), crash(1, api.WalTear{File: 1}), restart(1), fuse(0, 1, whole(1)), crash(0), restart(0), step(0, 2))
	if recs := recordsOf(t, c.Disk(0)); len(recs) != 1 || c.Node(0).How != api.NodeUp {
		t.Errorf("a crash takes the fuse off: %+v", recs)
	}
}

// In calm rounds, too, a replica goes down with its disk, and the rounds go on without it.
func TestP16_2DownInACalmRound(t *testing.T) {
	s := example()
	c := begun(t, s)
	do(t, c, fuse(0, 1))
	seen := do(t, c, calm(5))
	if got := ofKind(seen, api.SDown); len(got) != 1 || got[0].Node != 0 || !same(seen[0], got[0]) {
		t.Errorf("seen %+v", seen)
	}
	isDown(t, "its clock runs", c, 0, api.NodeCrashed, 5)
	if n := len(sentKind(t, seen, 1, api.KBeat)); n != 6 {
		t.Errorf("%d heartbeats of replica 1", n)
	}
}

// W6, for every write at which a disk can die: with whatever it keeps, the replica begins again with all that it has told others, and the cluster goes on; as the plainer one does.
func TestP16_7EveryWrite(t *testing.T) {
	s := with(func(s *api.Setup) { s.Config.MaxNum, s.Config.MaxSlot = 1<<20, 1<<20 })
	counts := map[string]int{}
	for writes := range uint64(34) {
		for at, tears := range [][]api.WalTear{
			nil,
			{whole(1), whole(2), whole(3), whole(4)},
			{{File: 1, Keep: 30, Flip: -1}, {File: 2, Keep: 40, Flip: 5}, {File: 3, Keep: 400, Flip: 77}},
			{{File: 1, Keep: 1 << 30, Flip: 9}, {File: 2, Keep: 1 << 30, Flip: 999}},
		} {
			c, x := begun(t, s), newSecond(t, s)
			w := newWatch(t, s, c, counts)
			node := int(writes+uint64(at)) % 2
			script := []api.Event{fuse(node, writes, tears...)}
			for i := range 3 {
				script = append(script, send(256, transfer(byte(i))...), calm(9))
			}
			script = append(script, restart(node), fuse(node, writes%7, tears...), calm(9), restart(node), send(256, transfer(9)...), calm(200))
			for _, e := range script {
				w.do(e)
				x.do(e)
				if !same(lookAt(c, s), x.look()) {
					t.Fatalf("%d writes, tears %d, %+v: %+v, want %+v", writes, at, e, lookAt(c, s), x.look())
				}
			}
			if c.Client(256).Waits || c.Client(256).Last.Seq != 4 {
				t.Errorf("%d writes, tears %d: not answered: %+v", writes, at, c.Client(256))
			}
		}
	}
	if counts["begun again"] < 80 {
		t.Errorf("begun again only %d times", counts["begun again"])
	}
}
