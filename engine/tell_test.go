package engine_test

import (
	"strings"
	"testing"

	"quorum/api"
	"quorum/engine"
)

// isTold wants Tell to tell just one line.
func isTold(t testing.TB, text, want string) {
	t.Helper()
	if got := engine.Tell(text); got != want+"\n" {
		t.Errorf("Tell(%q): %q, want %q", text, got, want)
	}
	if told, err := engine.Play(text); told != "" || err == nil || chain(err) != want+"\n" {
		t.Errorf("Play(%q): %q %v, want %q", text, told, err, want)
	}
}

func TestP18_7OwnFaults(t *testing.T) {
	isTold(t, "", "refused engine 0 errno 364")
	isTold(t, "#\n#", "refused engine 0 errno 364")
	isTold(t, "calm 3", "refused engine 1 errno 362")
	isTold(t, "hello", "refused engine 1 errno 360")
	isTold(t, "\n\ncluster 1", "refused engine 3 errno 361")
	isTold(t, house+"calm 01", "refused engine 8 errno 361")
	isTold(t, strings.Repeat("x", 65537), "refused engine 0 errno 363")
	isTold(t, strings.Repeat("\n", 2000), "refused engine 2001 errno 363")
}

// The chains of the layers below, from the outermost in.
func TestP18_7Chains(t *testing.T) {
	isTold(t, head+`send 256 open 7 1 2 3 50 900 "\xFF"`, "refused engine 2 deal 7 wire 8 errno 27")
	isTold(t, head+`send 256 open 7 1 2 3 50 900 "`+strings.Repeat("x", 513)+`"`, "refused engine 2 deal 7 wire 8 errno 21")
	isTold(t, "#\ncluster 4 4 0 4 2 3 20 80 1000 1000", "refused engine 2 cluster 0 replica 0 ballot 0 errno 180")
	isTold(t, "cluster 1 4 0 4 2 3 20 80 1000 0\ncalm 1", "refused engine 1 cluster 0 replica 0 ballot 9 errno 180")
	isTold(t, "\n"+head+"account 1 256 5 4", "refused engine 2 cluster 0 replica 3 session 0 deal 0 ledger 0 errno 47")
	isTold(t, head+"account 1 256 4 4\naccount 2 256 4 4\naccount 1 256 4 4", "refused engine 1 cluster 0 replica 3 session 2 deal 2 ledger 2 errno 41")
	isTold(t, "#\n#\n"+head+"client 256 5\nclient 257 0", "refused engine 3 cluster 2 errno 320")
	isTold(t, house+"calm 1\nstep 3 1", "refused engine 9 cluster 1 errno 321")
	isTold(t, house+"again 300", "refused engine 8 cluster 2 errno 321")
	isTold(t, house+"send 256 raw "+strings.Repeat("00", 701), "refused engine 8 cluster 5 errno 321")
}

// Where Play reports Tell does too, to the last byte; it refuses in a line where Play does.
func TestP18_7AnyScript(t *testing.T) {
	d := &dice{187}
	refused, told := 0, 0
	for range 1500 {
		lines := []string{strings.TrimSuffix(house, "\n")}
		for range 1 + d.below(5) {
			lines = append(lines, one(d, "calm 2", "send 256 transfer 1 2 1", "tick all 3", "crash 1", "restart 1", "deliver 0", "step 0 9", "send 257 look 7", d.line()))
		}
		text := strings.Join(lines, "\n")
		if d.below(6) == 0 {
			text = d.script()
		}
		if quick(text) {
			if strings.HasPrefix(isPlayed(t, text), "refused") {
				refused++
			} else {
				told++
			}
		}
		if t.Failed() {
			t.FailNow()
		}
	}
	if refused < 300 || told < 100 {
		t.Errorf("%d refused, %d told", refused, told)
	}
}

// quick tells whether a script is played in good time.
func quick(text string) bool {
	_, events, _ := engine.Parse(text)
	for _, e := range events {
		if e.Kind == api.ECalm && e.Count > 100 && e.Count <= api.MaxCalm || e.Kind == api.EStep && e.Count > 2000 {
			return false
		}
	}
	return true
}
