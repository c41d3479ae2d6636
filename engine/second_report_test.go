package engine_test

import (
	"errors"
	"fmt"
	"strings"

	"quorum/api"
	"quorum/audit"
	"quorum/cluster"
	"quorum/session"
	"quorum/snap"
)

// secondPlay plays a script a second time: the report, or the refusal.
func secondPlay(text string) (string, error) {
	s, at, why := secondRead(text)
	if why != nil {
		return "", &api.Fault{Layer: "engine", At: at, Err: why}
	}
	c, err := cluster.New(s.setup)
	if err != nil {
		return "", &api.Fault{Layer: "engine", At: s.head, Err: err}
	}
	var all []api.Seen
	for i, e := range s.events {
		seen, err := c.Do(e)
		if err != nil {
			return "", &api.Fault{Layer: "engine", At: s.lines[i], Err: err}
		}
		all = append(all, seen...)
	}
	return secondReport(s, c, all), nil
}

// secondReport tells what was seen, and how the replicas are.
func secondReport(s script, c *cluster.Cluster, all []api.Seen) string {
	var out strings.Builder
	count, bytes := 0, 0
	for _, x := range all {
		if x.Kind == api.SSent {
			count++
			bytes += len(x.Data)
			continue
		}
		fmt.Fprintf(&out, "%d: %s\n", s.lines[x.Event], secondSeen(x))
	}
	fmt.Fprintf(&out, "sent %d datagrams of %d bytes\n", count, bytes)
	n := 2*s.setup.Config.F + 1
	for i := range n {
		look := c.Node(i)
		how := []string{"up", "crashed", "stopped"}[look.How]
		fmt.Fprintf(&out, "node %d %s clock %d", i, how, look.Clock)
		if how == "up" {
			fmt.Fprintf(&out, " view %d.%d slot %d low %d mark %d root %X", look.View.Num, look.View.Node, look.Slot, look.Low, look.Mark, secondRoot(look.Machine))
		}
		fmt.Fprintln(&out)
	}
	out.WriteString(secondHouse(c, n))
	out.WriteString(secondLinear(s.setup.Accounts, all))
	return out.String()
}

// secondSeen tells one thing that was seen.
func secondSeen(x api.Seen) string {
	switch x.Kind {
	case api.SAsked:
		return fmt.Sprintf("client %d asks %d %s", x.Client, x.Seq, secondWords(x.Data))
	case api.SRan:
		text := fmt.Sprintf("node %d runs slot %d time %d:", x.Node, x.Slot, x.Batch.Stamp)
		for _, q := range x.Batch.Reqs {
			text += fmt.Sprintf(" %d/%d", q.Client, q.Seq)
		}
		if len(x.Batch.Reqs) == 0 {
			text += " nothing"
		}
		return text
	case api.SInstall:
		return fmt.Sprintf("node %d takes over slot %d", x.Node, x.Slot)
	case api.SReplied:
		return fmt.Sprintf("client %d is told %d code %d time %d %s", x.Client, x.Reply.Seq, int(x.Reply.Code), x.Reply.Stamp, secondHex(x.Reply.Data))
	case api.SDown:
		return fmt.Sprintf("node %d is down", x.Node)
	case api.SUp:
		return fmt.Sprintf("node %d is up at slot %d", x.Node, x.Slot)
	}
	return fmt.Sprintf("something of kind %d", x.Kind)
}

// secondRoot gives the root of a machine's snapshot, as the machine itself tells it.
func secondRoot(img api.Image) [32]byte {
	m, err := session.Restore(img)
	if err != nil {
		panic(err)
	}
	data, err := m.Snapshot()
	if err != nil {
		panic(err)
	}
	return snap.Root(data)
}

// secondHouse tells the house of the replica that is furthest.
func secondHouse(c *cluster.Cluster, n int) string {
	best := -1
	for i := n - 1; i >= 0; i-- {
		if c.Node(i).How == api.NodeUp && (best < 0 || c.Node(i).Slot >= c.Node(best).Slot) {
			best = i
		}
	}
	if best < 0 {
		return "no house\n"
	}
	h := c.Node(best).Machine.House
	text, total := fmt.Sprintf("house of node %d\n", best), uint64(0)
	for _, a := range h.Book.Accounts {
		text += fmt.Sprintf("account %d owner %d has %d of %d\n", a.ID, a.Owner, a.Balance, a.Cap)
		total += a.Balance
	}
	for _, o := range h.Book.Holds {
		text += fmt.Sprintf("hold %d from %d has %d\n", o.ID, o.From, o.Amount)
		total += o.Amount
	}
	for _, d := range h.Deals {
		text += fmt.Sprintf("deal %d phase %d amount %d paid %d %d %d\n", d.ID, d.Phase, d.Amount, d.Paid[0], d.Paid[1], d.Paid[2])
	}
	return text + fmt.Sprintf("total %d\n", total)
}

// secondLinear tells whether what was seen is that of one machine.
func secondLinear(accounts []api.Account, all []api.Seen) string {
	order, err := audit.Check(accounts, secondHistory(all))
	var number api.Errno
	switch {
	case err == nil:
		text := "history linear:"
		for _, place := range order {
			text += fmt.Sprint(" ", place)
		}
		return text + "\n"
	case errors.As(err, &number) && number == api.ErrAuditOrder:
		return "history not linear\n"
	}
	return fmt.Sprintf("history not looked at: %d\n", int(number))
}
