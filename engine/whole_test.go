package engine_test

import (
	"fmt"
	"regexp"
	"strconv"
	"strings"
	"testing"

	"quorum/api"
	"quorum/cluster"
	"quorum/engine"
	"quorum/session"
)

// What a report tells by its lines.
var (
	askedLine = regexp.MustCompile(`(?m)^(\d+): client (\d+) asks (\d+) (.*)$`)
	ranLine   = regexp.MustCompile(`(?m)^(\d+): node (\d+) runs slot (\d+) time (\d+): (.*)$`)
	toldLine  = regexp.MustCompile(`(?m)^(\d+): client (\d+) is told (\d+) (code \d+ time \d+ [0-9A-F-]+)$`)
	nodeLine  = regexp.MustCompile(`(?m)^node (\d+) up clock \d+ view \d+\.\d+ slot (\d+) low \d+ mark \d+ root ([0-9A-F]{64})$`)
)

// eventLines gives the lines of a report that tell of events.
func eventLines(report string) string {
	at := strings.Index("\n"+report, "\nsent ")
	return report[:at]
}

// P18.8, W11: what is told hangs on the text alone; blanks, remarks and empty lines turn the lines' numbers, and nothing else.
func TestP18_8TextAlone(t *testing.T) {
	number := regexp.MustCompile(`(?m)^\d+: `)
	for at, s := range shapes() {
		x := newStorm(t, s, uint64(1880+at))
		x.forge = true
		x.blow(t, 250)
		text := x.text(t)
		report := played(t, text)
		if again := played(t, strings.Clone(text)); again != report {
			t.Fatalf("told once:\n%s\nand then:\n%s", report, again)
		}
		d := &dice{uint64(at)}
		var lines []string
		var moved []int // where a line of the text stands now
		for _, l := range strings.Split(strings.TrimSuffix(text, "\n"), "\n") {
			for range d.below(3) {
				lines = append(lines, one(d, "", " ", "\t\r", "# a remark", " #", "#\"calm 9"))
			}
			name, rest, _ := strings.Cut(l, `"`)
			l = strings.ReplaceAll(name, " ", one(d, " ", "  ", "\t", " \r "))
			if rest != "" {
				l += `"` + rest
			}
			lines = append(lines, one(d, "", " ", "\t")+l+one(d, "", " ", "\r"))
			moved = append(moved, len(lines))
		}
		wide := played(t, strings.Join(lines, "\n"))
		want := number.ReplaceAllStringFunc(report, func(label string) string {
			n, _ := strconv.Atoi(strings.TrimSuffix(label, ": "))
			return strconv.Itoa(moved[n-1]) + ": "
		})
		if wide != want {
			t.Fatalf("with blanks:\n%s\nwant\n%s", wide, want)
		}
	}
}

// P18.8: the report of a script's beginning, as far as its events' lines go, is the beginning of the script's report.
func TestP18_8Beginning(t *testing.T) {
	for at, s := range shapes() {
		x := newStorm(t, s, uint64(18800+at))
		x.forge, x.sends = true, 20
		x.blow(t, 200)
		whole := played(t, x.text(t))
		for n := 0; n <= 200; n += 20 {
			part := played(t, printed(t, s, x.drawn[:n]))
			if !strings.HasPrefix(whole, eventLines(part)) {
				t.Fatalf("of %d events:\n%s\nof all:\n%s", n, part, whole)
			}
		}
		cut := strings.TrimSuffix(x.text(t), "\n") // without the last line feed it is the same
		if again := played(t, cut); again != whole {
			t.Fatalf("without a line feed at the end:\n%s\nwant\n%s", again, whole)
		}
	}
}

// P18.9, W3: without forging, and with at most MaxCalls sends, the history is linear.
func TestP18_9NoLie(t *testing.T) {
	linear := regexp.MustCompile(`\nhistory linear:( \d+)*\n$`)
	told, silent := 0, 0
	for run := range 40 {
		x := newStorm(t, shapes()[run%4], uint64(1890+run))
		x.blow(t, 220)
		report := played(t, x.text(t))
		if !linear.MatchString(report) {
			t.Fatalf("%s\n%s", x.text(t), report)
		}
		asked, answered := len(askedLine.FindAllString(report, -1)), len(toldLine.FindAllString(report, -1))
		told += answered
		silent += asked - answered
		if asked > api.MaxCalls || x.sends == 0 && asked != api.MaxCalls {
			t.Fatalf("%d sends:\n%s", asked, report)
		}
	}
	if told < 60 || silent < 60 {
		t.Errorf("%d calls were answered, %d not", told, silent)
	}
}

// single runs the batches of a report, each once, on one machine, slot by slot; it wants no slot to run in two ways (W1). Its answers lie by client and number.
func single(t *testing.T, x *storm, report string) (*session.Machine, map[string]string) {
	t.Helper()
	cmds := map[string][]byte{} // what the clients have begun
	seqs := map[uint64]int{}
	for _, e := range x.drawn {
		if e.Kind == api.ESend {
			seqs[e.Client]++
			cmds[fmt.Sprint(e.Client, "/", seqs[e.Client])] = e.Data
		}
	}
	slots := map[string]string{}
	for _, l := range ranLine.FindAllStringSubmatch(report, -1) {
		batch := l[4] + ": " + l[5]
		if other, known := slots[l[3]]; known && other != batch {
			t.Fatalf("slot %s runs as %q and as %q:\n%s", l[3], other, batch, report)
		}
		slots[l[3]] = batch
	}
	m, err := session.New(x.s.Accounts)
	if err != nil {
		t.Fatal(err)
	}
	answers := map[string]string{}
	for slot := range len(slots) {
		stamp, names, ok := strings.Cut(slots[strconv.Itoa(slot)], ": ")
		if !ok {
			t.Fatalf("slot %d was skipped:\n%s", slot, report)
		}
		var b api.Batch
		b.Stamp, _ = strconv.ParseUint(stamp, 10, 64)
		for _, name := range strings.Fields(strings.Replace(names, "nothing", "", 1)) {
			cmd, begun := cmds[name]
			if !begun {
				t.Fatalf("%s runs in slot %d, and nobody asked for it:\n%s", name, slot, report)
			}
			q := api.Request{Cmd: cmd}
			fmt.Sscanf(name, "%d/%d", &q.Client, &q.Seq)
			b.Reqs = append(b.Reqs, q)
		}
		replies, err := m.Batch(b)
		if err != nil {
			t.Fatal(err)
		}
		for _, a := range replies {
			answers[fmt.Sprint(a.Client, "/", a.Seq)] = fmt.Sprintf("code %d time %d %s", int(a.Code), a.Stamp, secondHex(a.Data))
		}
	}
	return m, answers
}

// W1, W2, W4, W5: all replicas run one sequence; every answer is that of one machine that runs it, and so is the house in the end; nothing is lost.
func TestWOneMachine(t *testing.T) {
	answered, behind := 0, 0
	for run := range 24 {
		x := newStorm(t, shapes()[run%4], uint64(1811+run))
		x.sends = 30
		x.blow(t, 400)
		for n := range x.nodes() {
			x.do(t, api.Event{Kind: api.ERestart, Node: n})
		}
		x.do(t, api.Event{Kind: api.ECalm, Count: 60})
		report := played(t, x.text(t))
		m, answers := single(t, x, report)
		for _, l := range toldLine.FindAllStringSubmatch(report, -1) {
			if name := l[2] + "/" + l[3]; answers[name] != l[4] {
				t.Fatalf("%s is told %q, one machine says %q:\n%s", name, l[4], answers[name], report)
			}
			answered++
		}
		root := secondRoot(m.Image())
		for _, l := range nodeLine.FindAllStringSubmatch(report, -1) {
			if l[2] != strconv.FormatUint(m.Slot(), 10) {
				behind++
			} else if l[3] != secondHex(root[:]) {
				t.Fatalf("node %s is another machine:\n%s", l[1], report)
			}
		}
		if !strings.Contains(report, "\ntotal 120\n") && !strings.Contains(report, "\nno house\n") {
			t.Fatalf("%s", report)
		}
	}
	if answered < 100 || behind > 24 {
		t.Errorf("%d answers, %d replicas that are behind", answered, behind)
	}
}

// W10: behind a storm without forging, when all that are not stopped stay up and it is calm, every client that waits is told.
func TestW10Calm(t *testing.T) {
	for at, s := range shapes() {
		x := newStorm(t, s, uint64(1800+at))
		x.blow(t, 250)
		for n := range x.nodes() { // a crash takes the fuse off, but only of a replica that is up
			x.do(t, api.Event{Kind: api.ERestart, Node: n})
			x.do(t, api.Event{Kind: api.ECrash, Node: n, Tears: x.tears(n)})
			x.do(t, api.Event{Kind: api.ERestart, Node: n})
		}
		for _, c := range s.Clients {
			if !x.c.Client(c.Id).Waits {
				x.do(t, api.Event{Kind: api.ESend, Client: c.Id})
			}
		}
		x.do(t, api.Event{Kind: api.ECalm, Count: min(cluster.Bound(s), 2000)})
		report := isPlayed(t, x.text(t))
		last := strconv.Itoa(strings.Count(x.text(t), "\n"))
		for _, c := range s.Clients {
			if !strings.Contains(report, "\n"+last+": client "+strconv.FormatUint(c.Id, 10)+" is told ") {
				t.Errorf("shape %d: client %d waits:\n%s", at, c.Id, report)
			}
		}
	}
}

// W11: scripts that are played side by side do not touch one another.
func TestW11SideBySide(t *testing.T) {
	var texts, want []string
	for at, s := range shapes() {
		x := newStorm(t, s, uint64(1811+at))
		x.blow(t, 120)
		texts, want = append(texts, x.text(t)), append(want, played(t, x.text(t)))
	}
	got := make([]string, 4*len(texts))
	done := make(chan int)
	for i := range got {
		go func() {
			got[i] = engine.Tell(texts[i%len(texts)])
			done <- i
		}()
	}
	for range got {
		i := <-done
		if got[i] != want[i%len(want)] {
			t.Errorf("%s\nwant\n%s", got[i], want[i%len(want)])
		}
	}
}
