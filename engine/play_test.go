package engine_test

import (
	"errors"
	"strconv"
	"strings"
	"testing"

	"quorum/api"
	"quorum/cluster"
	"quorum/engine"
	"quorum/wire"
)

// isPlayed wants Play and Tell to answer just what a second playing does.
func isPlayed(t testing.TB, text string) string {
	t.Helper()
	want, why := secondPlay(text)
	got, err := engine.Play(text)
	if why != nil {
		isFault(t, text, err, why.(*api.Fault).Err, why.(*api.Fault).At)
		want = chain(why)
		if got != "" {
			t.Errorf("Play: %q beside a refusal", got)
		}
	} else if err != nil || got != want {
		t.Fatalf("Play(%q): %v:\n%s\nwant\n%s", text, err, got, want)
	}
	if told := engine.Tell(text); told != want {
		t.Fatalf("Tell(%q): %q, want %q", text, told, want)
	}
	return want
}

// What cluster.New refuses, at the cluster line.
func TestP18_5Setup(t *testing.T) {
	for what, text := range map[string]string{
		"F 0":               "cluster 0 4 0 4 2 3 20 80 1000 1000",
		"F 4":               "cluster 4 4 0 4 2 3 20 80 1000 1000",
		"F far above":       "cluster 9223372036854775807 4 0 4 2 3 20 80 1000 1000",
		"MaxBatch 9":        "cluster 1 9 0 4 2 3 20 80 1000 1000",
		"Delay 1001":        "cluster 1 4 1001 4 2 3 20 80 1000 1000",
		"Window 9":          "cluster 1 4 0 9 2 3 20 80 1000 1000",
		"Every above":       "cluster 1 4 0 4 5 3 20 80 1000 1000",
		"Beat 0":            "cluster 1 4 0 4 2 0 20 80 1000 1000",
		"Epoch 0":           "cluster 1 4 0 4 2 3 0 80 1000 1000",
		"EpochMax below":    "cluster 1 4 0 4 2 3 20 19 1000 1000",
		"MaxNum 0":          "cluster 1 4 0 4 2 3 20 80 0 1000",
		"MaxSlot far above": "cluster 1 4 0 4 2 3 20 80 1000 18446744073709551615",
		"account 0":         head + "account 0 256 5 9",
		"above its cap":     head + "account 1 256 5 4",
		"an account twice":  head + "account 1 256 5 9\naccount 1 256 5 9",
		"too much":          head + "account 1 256 18446744073709551615 18446744073709551615\naccount 2 256 1 1",
		"65 accounts":       head + strings.Repeat("account 1 256 5 9\n", 65),
		"client 255":        head + "client 255 5",
		"a client twice":    head + "client 256 5\nclient 257 5\nclient 256 5",
		"resend 0":          head + "client 256 0",
		"resend 1001":       head + "client 256 5\nclient 257 1001",
		"nine clients":      head + "client 256 1\nclient 257 1\nclient 258 1\nclient 259 1\nclient 260 1\nclient 261 1\nclient 262 1\nclient 263 1\nclient 264 1",
	} {
		setup, _ := parsed(t, text)
		_, why := cluster.New(setup)
		if why == nil {
			t.Fatalf("%s: New takes it", what)
		}
		for at, ahead := range []string{"", "# a remark\n", "\n\t\n", "\n\n#\n"} {
			told, err := engine.Play(ahead + text + "\ncalm 1\nstep 9 9\n")
			isFault(t, what, err, why, at+1)
			if told != "" {
				t.Errorf("%s: %q beside a refusal", what, told)
			}
			isPlayed(t, ahead+text)
		}
	}
}

// What cluster.Do refuses, at the event's line.
func TestP18_5Events(t *testing.T) {
	for line, at := range map[string]int{
		"step 3 1": 1, "step 9223372036854775807 1": 1, "stop 3": 1, "restart 3": 1, "crash 3": 1, "fuse 3 1": 1, "tick 3 1": 1, "forge 256 3 -": 1,
		"forge 255 0 -": 2, "send 255 look 1": 2, "send 259 look 1": 2, "again 0": 2, "again 259": 2,
		"tick 0 1099511627777": 4, "tick all 18446744073709551615": 4, "step 0 10001": 4, "fuse 0 10001": 4, "calm 20001": 4,
		"send 256 raw " + strings.Repeat("00", 701): 5,
		"crash 0" + strings.Repeat(" 1:2:3", 65):    6, "fuse 0 1" + strings.Repeat(" 1:2:-", 65): 6,
	} {
		why := &api.Fault{Layer: "cluster", At: at, Err: api.ErrClusterEvent}
		for lines, ahead := range []string{house, house + "#\n", house + "calm 1\n\n", house + "stop 0\n\nsend 256 look 7\n"} {
			told, err := engine.Play(ahead + line + "\nstep 9 9")
			isFault(t, line, err, why, houseLines+1+lines)
			if told != "" || !errors.Is(err, api.ErrClusterEvent) {
				t.Errorf("%s: %q %v", line, told, err)
			}
			isPlayed(t, ahead+line)
		}
	}
	for _, line := range []string{"deliver 9223372036854775807", "tick 0 1099511627776", "tick all 1099511627776", "step 0 10000", "fuse 0 10000", "calm 0", "crash 0" + strings.Repeat(" 1:2:3", 64), "send 256 raw " + strings.Repeat("00", 700), "forge 18446744073709551615 2 00"} {
		isPlayed(t, house+line) // at the limits nothing is refused
		played(t, house+line)
	}
}

// As many lines as there may be, each an event.
func TestP18_5Longest(t *testing.T) {
	text := house + strings.Repeat("calm 0\n", 1992) + "tick all 3"
	has(t, isPlayed(t, text), "node 0 up clock 3 view 1.0 slot 0 low 0 mark 0 root "+emptyRoot(t), "history linear:")
}

// emptyRoot gives the root of the house that nothing was asked of.
func emptyRoot(t testing.TB) string {
	t.Helper()
	c, err := cluster.New(houseSetup())
	if err != nil {
		t.Fatal(err)
	}
	root := secondRoot(c.Node(0).Machine)
	return secondHex(root[:])
}

// Every line of a report at least once, written out.
func TestP18_6Lines(t *testing.T) {
	text := house + `
send 256 open 7 1 2 3 50 900 "on release {\n}"
send 257 raw 0D8700
calm 12
send 256 fund 7 0
calm 12
crash 2
send 258 balance 3
calm 12
restart 2
stop 1
calm 3
`
	report := isPlayed(t, text)
	lines := strings.Split(report, "\n")
	want := []string{
		`9: client 256 asks 1 open 7 1 2 3 50 900 "on release {\n}"`,
		"10: client 257 asks 1 raw 0D8700",
		"11: node 0 runs slot 0 time 3: 256/1 257/1",
		"11: node 1 runs slot 0 time 3: 256/1 257/1",
		"11: node 2 runs slot 0 time 3: 256/1 257/1",
		"11: client 256 is told 1 code 0 time 3 -",
		"11: client 257 is told 1 code 100 time 3 -",
		"12: client 256 asks 2 fund 7 0",
		"13: node 0 runs slot 1 time 13: 256/2",
		"13: node 1 runs slot 1 time 13: 256/2",
		"13: node 2 runs slot 1 time 13: 256/2",
		"13: client 256 is told 2 code 0 time 13 000000000000000000000000000000000000000000000000",
		"14: node 2 is down",
		"15: client 258 asks 1 balance 3",
		"16: node 0 runs slot 2 time 25: 258/1",
		"16: node 1 runs slot 2 time 25: 258/1",
		"16: client 258 is told 1 code 0 time 25 000000000000001400000000000003E8",
		"17: node 2 is up at slot 2",
		"18: node 1 is down",
		"19: node 2 runs slot 2 time 25: 258/1",
	}
	if len(lines) < len(want) || !same(lines[:len(want)], want) {
		t.Fatalf("%s", report)
	}
	tail := strings.Join(lines[len(want):], "\n")
	if !strings.HasPrefix(tail, "sent ") || !strings.HasSuffix(tail, "\nhouse of node 0\naccount 1 owner 256 has 50 of 1000\naccount 2 owner 257 has 0 of 1000\naccount 3 owner 258 has 20 of 1000\nhold 7 from 1 has 50\ndeal 7 phase 2 amount 50 paid 0 0 0\ntotal 120\nhistory linear: 0 1 2 3\n") {
		t.Errorf("%s", tail)
	}
	has(t, report, "node 1 stopped clock 39")
}

// A script that does nothing, and one without a setup beside its cluster.
func TestP18_6Empty(t *testing.T) {
	root := emptyRoot(t)
	up := func(n string) string {
		return "node " + n + " up clock 0 view 1.0 slot 0 low 0 mark 0 root " + root + "\n"
	}
	want := "sent 0 datagrams of 0 bytes\n" + up("0") + up("1") + up("2") + "house of node 0\naccount 1 owner 256 has 100 of 1000\naccount 2 owner 257 has 0 of 1000\naccount 3 owner 258 has 20 of 1000\ntotal 120\nhistory linear:\n"
	if got := played(t, house); got != want {
		t.Errorf("%s\nwant\n%s", got, want)
	}
	has(t, isPlayed(t, head), "house of node 0", "total 0", "history linear:")
}

// The house that is told is that of the replica furthest on; of several the lowest.
func TestP18_6House(t *testing.T) {
	begun := house + "send 256 transfer 1 2 10\n"
	for _, c := range []struct{ events, house string }{
		{"calm 12", "house of node 0"},
		{"calm 12\ncrash 0", "house of node 1"},
		{"calm 12\nstop 0\ncrash 1", "house of node 2"},
		{"calm 12\nstop 0\ncrash 1\nstop 2", "no house"},
		{"crash 0\ncalm 80", "house of node 1"},
		{"crash 0\ncalm 80\nrestart 0", "house of node 1"}, // node 0 has not run it
		{"crash 1\ncrash 0\nrestart 0", "house of node 0"},
		{"stop 0", "house of node 1"},
		{"stop 2\nstop 1\nstop 0", "no house"},
		{"crash 2\ncrash 1\ncrash 0", "no house"},
	} {
		report := isPlayed(t, begun+c.events)
		has(t, report, c.house)
		if strings.Count(report, "house") != 1 || strings.Contains(report, "no house") == strings.Contains(report, "total") {
			t.Errorf("%s", report)
		}
	}
	report := isPlayed(t, begun+"crash 0\ncalm 80\nrestart 0")
	has(t, report, "house of node 1", "account 1 owner 256 has 90 of 1000", "account 2 owner 257 has 10 of 1000", "total 120", "history linear: 0")
}

// What is sent is counted: in three rounds of calm, and of a client that asks.
func TestP18_6Sent(t *testing.T) {
	has(t, isPlayed(t, house+"send 256 raw -"), "sent 3 datagrams of 42 bytes")
	has(t, isPlayed(t, house+"send 256 raw -\nagain 256\nagain 256\nagain 257"), "sent 9 datagrams of 126 bytes")
	has(t, isPlayed(t, house+"forge 256 0 00\ncopy 0"), "sent 0 datagrams of 0 bytes")
	lacks(t, isPlayed(t, house+"calm 9"), ": sent")
}

// More calls than layer 17 looks at, strangers' among them.
func TestP18_6History(t *testing.T) {
	eight := house + strings.Repeat("send 256 look 7\ncalm 6\n", 8)
	has(t, isPlayed(t, eight), "history linear: 0 1 2 3 4 5 6 7")
	has(t, isPlayed(t, eight+"send 256 look 7"), "history not looked at: 340")
	has(t, isPlayed(t, strings.Replace(eight, "look 7", "look 8", 3)+"forge 300 0 "+secondHex(datagram(t, 1, nil))), "history linear: 0 1 2 3 4 5 6 7") // it is in flight still
	has(t, isPlayed(t, eight+"forge 300 0 "+secondHex(datagram(t, 1, nil))+"\ncalm 9"), "history not looked at: 340")
	seven := strings.TrimSuffix(eight, "send 256 look 7\ncalm 6\n")
	has(t, isPlayed(t, seven+"forge 300 0 "+secondHex(datagram(t, 1, nil))+"\ncalm 9"), "history linear: 0 1 2 3 4 5 6")
	// A stranger who pays with client 256's money ahead of all: 0 is explained by the stranger's call, which stands behind it in the list.
	pay := packed(t, api.Cmd{Verb: api.VTransfer, Acct: 1, To: 2, Amount: 100})
	report := isPlayed(t, house+"forge 256 0 "+secondHex(datagram(t, 1, pay))+"\ncalm 12\nsend 257 balance 2\ncalm 12")
	has(t, report, "11: client 257 is told 1 code 0 time 13 000000000000006400000000000003E8", "history linear: 1 0")
	lacks(t, report, "client 256")
}

// A client whose number a stranger has used: what it is told is the answer to another command, and that is no machine's answer to its own.
func TestP18_6NotLinear(t *testing.T) {
	look := packed(t, api.Cmd{Verb: api.VBalance, Acct: 1})
	report := isPlayed(t, house+"forge 256 0 "+secondHex(datagram(t, 1, look))+"\ncalm 12\nsend 256 transfer 1 2 10\ncalm 12")
	has(t, report, "9: node 0 runs slot 0 time 3: 256/1", "10: client 256 asks 1 transfer 1 2 10", "11: client 256 is told 1 code 0 time 3 000000000000006400000000000003E8", "history not linear")
}

// gap is a storm in which a leader finds a vote for slot 2 and none for the slots below it, while one request waits.
func gap(t testing.TB) *storm {
	t.Helper()
	s := houseSetup()
	s.Config.MaxBatch = 1
	x := newStorm(t, s, 1)
	x.do(t, api.Event{Kind: api.ECalm, Count: 12})
	for client := uint64(300); client < 302; client++ { // nobody asks again for these
		x.do(t, api.Event{Kind: api.EForge, Client: client, Data: datagram(t, 1, nil)})
	}
	x.do(t, api.Event{Kind: api.ESend, Client: 258})
	x.sift(t, func(p api.Packet) bool { return p.To == 0 })
	x.do(t, api.Event{Kind: api.EStep, Count: 100})
	x.sift(t, func(p api.Packet) bool {
		m, err := wire.DecodeMsg(p.Data)
		return err == nil && m.Kind == api.KPropose && m.Slot == 2 && p.To == 1
	})
	x.do(t, api.Event{Kind: api.EStep, Node: 1, Count: 30})
	x.do(t, api.Event{Kind: api.EStop})
	x.sift(t, func(p api.Packet) bool { return false })
	x.do(t, api.Event{Kind: api.ECalm, Count: 200})
	return x
}

// sift delivers the packets in flight that are good, and drops the others.
func (x *storm) sift(t testing.TB, good func(p api.Packet) bool) {
	t.Helper()
	for _, p := range x.c.Flight() {
		kind := api.EDrop
		if good(p) {
			kind = api.EDeliver
		}
		x.do(t, api.Event{Kind: kind})
	}
}

// A batch without requests.
func TestP18_6NothingRuns(t *testing.T) {
	x := gap(t)
	report := isPlayed(t, x.text(t))
	last := strconv.Itoa(houseLines + len(x.drawn))
	has(t, report, last+": node 1 runs slot 0 time 43: 258/1", last+": node 1 runs slot 1 time 43: nothing", last+": node 1 runs slot 2 time 12: 258/1", "history linear: 0")
}

// Whatever happens, beside a second playing.
func TestP18_6SecondPlaying(t *testing.T) {
	counts := map[string]int{}
	for at, s := range shapes() {
		for run := range 6 {
			x := newStorm(t, s, uint64(1860+100*at+run))
			x.forge, x.sends = run%2 == 1, 8+run*8
			x.blow(t, 500)
			report := isPlayed(t, x.text(t))
			for _, what := range []string{" asks ", " runs slot ", " takes over slot ", " is told ", " is down\n", " is up at slot ", " crashed clock ", " stopped clock ", " up clock ", "\ndeal ", "history linear: ", "history not looked at: 340"} {
				counts[what] += strings.Count(report, what)
			}
		}
	}
	for what, n := range counts {
		if n == 0 {
			t.Errorf("no line has %q: %v", what, counts)
		}
	}
}
