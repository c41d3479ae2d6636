package engine

import (
	"errors"
	"strconv"

	"quorum/api"
	"quorum/audit"
	"quorum/cluster"
	"quorum/snap"
)

// report is a report that grows event by event.
type report struct {
	page
	seen  []api.Seen // what the history is made of
	sent  int        // datagrams
	bytes int        // theirs
}

// event tells what was seen at the event that stands on that line (P18.6).
func (r *report) event(at int, seen []api.Seen) {
	for _, s := range seen {
		if s.Kind == api.SSent {
			r.sent++
			r.bytes += len(s.Data)
			continue
		}
		r.seen = append(r.seen, s)
		r.line(append([]string{strconv.Itoa(at) + ":"}, seenWords(s)...)...)
	}
}

// seenWords tells something that was seen.
func seenWords(s api.Seen) []string {
	node := strconv.Itoa(s.Node)
	switch s.Kind {
	case api.SAsked:
		return append([]string{"client", digits(s.Client), "asks", digits(s.Seq)}, commandWords(s.Data)...)
	case api.SRan:
		return append([]string{"node", node, "runs slot", digits(s.Slot), "time", digits(s.Batch.Stamp) + ":"}, batchWords(s.Batch)...)
	case api.SInstall:
		return []string{"node", node, "takes over slot", digits(s.Slot)}
	case api.SReplied:
		a := s.Reply
		return []string{"client", digits(s.Client), "is told", digits(a.Seq), "code", strconv.Itoa(int(a.Code)), "time", digits(a.Stamp), hex(a.Data)}
	case api.SDown:
		return []string{"node", node, "is down"}
	}
	return []string{"node", node, "is up at slot", digits(s.Slot)} // SUp
}

// batchWords names the requests of a batch.
func batchWords(b api.Batch) []string {
	if len(b.Reqs) == 0 {
		return []string{"nothing"}
	}
	var words []string
	for _, q := range b.Reqs {
		words = append(words, digits(q.Client)+"/"+digits(q.Seq))
	}
	return words
}

// end tells what came of it all.
func (r *report) end(c *cluster.Cluster, setup api.Setup) {
	r.line("sent", strconv.Itoa(r.sent), "datagrams of", strconv.Itoa(r.bytes), "bytes")
	best := -1 // the replica whose house is told
	var house api.NodeLook
	for n := range 2*setup.Config.F + 1 {
		look := c.Node(n)
		r.line(append([]string{"node", strconv.Itoa(n)}, nodeWords(look)...)...)
		if look.How == api.NodeUp && (best < 0 || look.Slot > house.Slot) {
			best, house = n, look
		}
	}
	if best < 0 {
		r.line("no house")
	} else {
		r.line("house of node", strconv.Itoa(best))
		r.house(house.Machine.House)
	}
	r.history(setup.Accounts)
}

// nodeWords tells how a replica is.
func nodeWords(look api.NodeLook) []string {
	clock := digits(look.Clock)
	switch look.How {
	case api.NodeCrashed:
		return []string{"crashed clock", clock}
	case api.NodeStopped:
		return []string{"stopped clock", clock}
	}
	view := digits(look.View.Num) + "." + strconv.Itoa(look.View.Node)
	return []string{"up clock", clock, "view", view, "slot", digits(look.Slot), "low", digits(look.Low), "mark", digits(look.Mark), "root", root(look.Machine)}
}

// root gives the digits of the root of a machine's snapshot.
func root(machine api.Image) string {
	data, err := snap.Pack(machine)
	if err != nil { // no machine's image is refused
		return hex(nil)
	}
	sum := snap.Root(data)
	return hex(sum[:])
}

// house tells accounts, holds and deals, and what all money comes to.
func (r *report) house(h api.HouseImage) {
	total := uint64(0)
	for _, a := range h.Book.Accounts {
		r.line("account", digits(a.ID), "owner", digits(a.Owner), "has", digits(a.Balance), "of", digits(a.Cap))
		total += a.Balance
	}
	for _, o := range h.Book.Holds {
		r.line("hold", digits(o.ID), "from", digits(o.From), "has", digits(o.Amount))
		total += o.Amount
	}
	for _, d := range h.Deals {
		r.line("deal", digits(d.ID), "phase", strconv.Itoa(int(d.Phase)), "amount", digits(d.Amount), "paid", digits(d.Paid[0]), digits(d.Paid[1]), digits(d.Paid[2]))
	}
	r.line("total", digits(total))
}

// history tells whether what the clients saw is what one machine answers.
func (r *report) history(accounts []api.Account) {
	order, err := audit.Check(accounts, History(r.seen))
	var number api.Errno
	switch {
	case errors.Is(err, api.ErrAuditOrder):
		r.line("history not linear")
	case errors.As(err, &number):
		r.line("history not looked at:", strconv.Itoa(int(number)))
	default:
		words := []string{"history linear:"}
		for _, place := range order {
			words = append(words, strconv.Itoa(place))
		}
		r.line(words...)
	}
}
