package cluster_test

import (
	"bytes"
	"slices"
	"testing"

	"quorum/api"
	"quorum/cluster"
	"quorum/session"
	"quorum/wire"
)

// name is a request's client and number.
type name struct{ client, seq uint64 }

// said is what a host has told others in all its lives, as far as its disk must back it.
type said struct {
	promised api.Ballot // the greatest ballot of its promises
	begun    api.Ballot // the greatest ballot that it has prepared
	mark     uint64     // the greatest mark that it has told
	low      uint64     // the truncation point that its disk had last
	votes    []api.Msg  // its KAccepts, one of each
}

// watch looks at all that is seen of a cluster. It knows the one machine: all batches that have run anywhere, its image behind each, and its replies.
type watch struct {
	t       *testing.T
	s       api.Setup
	c       *cluster.Cluster
	machine *session.Machine
	batches []api.Batch
	images  []api.Image
	replies map[name][]api.Msg
	asked   map[name][][]byte // the commands that came under a client's address
	hosts   []said
	counts  map[string]int
}

func newWatch(t *testing.T, s api.Setup, c *cluster.Cluster, counts map[string]int) *watch {
	t.Helper()
	m, err := session.New(s.Accounts)
	if err != nil {
		t.Fatal(err)
	}
	return &watch{
		t: t, s: s, c: c, machine: m, images: []api.Image{m.Image()}, replies: map[name][]api.Msg{}, asked: map[name][][]byte{},
		hosts: make([]said, 2*s.Config.F+1), counts: counts,
	}
}

// do plays an event and looks at what comes of it.
func (w *watch) do(e api.Event) {
	w.t.Helper()
	if m, err := wire.DecodeMsg(e.Data); e.Kind == api.EForge && err == nil && m.Kind == api.KRequest {
		w.ask(name{e.Client, m.Seq}, m.Cmd)
	}
	for _, s := range do(w.t, w.c, e) {
		switch s.Kind {
		case api.SAsked:
			w.ask(name{s.Client, s.Seq}, s.Data)
		case api.SRan:
			w.ran(s)
		case api.SSent:
			w.sent(s)
		case api.SInstall:
			w.counts["installed"]++
			w.isKnown(s)
		case api.SUp:
			w.counts["begun again"]++
			w.isKnown(s)
		case api.SReplied:
			w.counts["replied"]++
			if list := w.replies[name{s.Client, s.Reply.Seq}]; !slices.ContainsFunc(list, func(m api.Msg) bool { return same(replyOf(s.Client, m), s.Reply) }) {
				w.t.Fatalf("a client is told %+v, of %+v", s.Reply, list)
			}
		}
	}
	for n := range w.hosts {
		w.looks(n)
	}
}

func replyOf(client uint64, m api.Msg) api.Reply {
	return api.Reply{Client: client, Seq: m.Seq, Stamp: m.Stamp, Code: m.Code, Data: m.Data}
}

func (w *watch) ask(who name, cmd []byte) { w.asked[who] = append(w.asked[who], cmd) }

// isKnown wants a slot up to which the one machine has run.
func (w *watch) isKnown(s api.Seen) {
	w.t.Helper()
	if s.Slot > uint64(len(w.batches)) {
		w.t.Fatalf("nobody has run up to slot %d: %+v", s.Slot, s)
	}
}

// ran wants every replica to run the same batch in a slot, and nothing in it that nobody has asked for (W1).
func (w *watch) ran(s api.Seen) {
	w.t.Helper()
	w.counts["ran"]++
	if s.Slot == uint64(len(w.batches)) {
		w.extend(s.Batch)
	}
	if s.Slot > uint64(len(w.batches)) || !same(w.batches[s.Slot], s.Batch) {
		w.t.Fatalf("replica %d runs %+v in slot %d", s.Node, s.Batch, s.Slot)
	}
}

// extend lets the one machine run a batch.
func (w *watch) extend(b api.Batch) {
	w.t.Helper()
	w.counts["slots"]++
	for _, q := range b.Reqs {
		if !slices.ContainsFunc(w.asked[name{q.Client, q.Seq}], func(cmd []byte) bool { return bytes.Equal(cmd, q.Cmd) }) {
			w.t.Fatalf("nobody asked for %+v", q)
		}
	}
	replies, err := w.machine.Batch(b)
	if err != nil {
		w.t.Fatalf("the one machine refuses: %v", err)
	}
	for _, r := range replies {
		who := name{r.Client, r.Seq}
		w.replies[who] = append(w.replies[who], api.Msg{Kind: api.KReply, Seq: r.Seq, Stamp: r.Stamp, Code: r.Code, Data: r.Data})
	}
	w.batches, w.images = append(w.batches, b), append(w.images, w.machine.Image())
}

// sent holds replies against those of the one machine (W2), and keeps in mind what the disk must back.
func (w *watch) sent(s api.Seen) {
	w.t.Helper()
	m := message(w.t, s.Data)
	if b, err := wire.EncodeMsg(m); err != nil || !bytes.Equal(b, s.Data) {
		w.t.Fatalf("%x is written back as %x (%v)", s.Data, b, err)
	}
	if s.From >= api.FirstClient {
		return
	}
	h := &w.hosts[s.From]
	switch m.Kind {
	case api.KReply:
		list := w.replies[name{uint64(s.To), m.Seq}]
		if !slices.ContainsFunc(list, func(r api.Msg) bool { return same(r, m) }) {
			w.t.Fatalf("replica %d answers %d with %+v, want one of %+v", s.From, s.To, m, list)
		}
	case api.KPromise:
		h.promised = higher(h.promised, m.Bal)
	case api.KPrepare:
		h.begun = higher(h.begun, m.Bal)
	case api.KBeat:
		h.mark = max(h.mark, m.Slot)
	case api.KAccept:
		if !slices.ContainsFunc(h.votes, func(v api.Msg) bool { return same(v, m) }) {
			h.votes = append(h.votes, m)
		}
	}
}

func higher(a, b api.Ballot) api.Ballot {
	if below(a, b) {
		return b
	}
	return a
}

// looks wants a replica's machine to be the one machine, all money to be there, and the disk to back what was sent.
func (w *watch) looks(n int) {
	w.t.Helper()
	w.backed(n)
	k := w.c.Node(n)
	if k.How != api.NodeUp {
		return
	}
	if k.Slot != k.Machine.Slot || k.Slot > uint64(len(w.batches)) || !same(k.Machine, w.images[k.Slot]) {
		w.t.Fatalf("replica %d is at %+v, want one of %+v", n, k.Machine, w.images)
	}
	w.money(k.Machine.House)
}

// money wants all balances and what is held to be the first total (W5).
func (w *watch) money(h api.HouseImage) {
	w.t.Helper()
	var sum, first uint64
	for _, a := range w.s.Accounts {
		first += a.Balance
	}
	for _, a := range h.Book.Accounts {
		sum += a.Balance
		if a.Balance > a.Cap {
			w.t.Fatalf("more than its cap: %+v", a)
		}
	}
	for _, x := range h.Book.Holds {
		if !slices.ContainsFunc(h.Deals, func(d api.Deal) bool {
			return d.ID == x.ID && (d.Phase == api.PhaseFunded || d.Phase == api.PhaseDisputed)
		}) {
			w.t.Fatalf("held for no deal: %+v", x)
		}
		sum += x.Amount
		w.counts["held"]++
	}
	if sum != first {
		w.t.Fatalf("%d in all, want %d: %+v", sum, first, h)
	}
}

// backed wants what a host has sent to be backed by what its disk keeps, whatever it tears (P16.7, W6).
func (w *watch) backed(n int) {
	w.t.Helper()
	var promised, begun api.Ballot
	var low, mark uint64
	votes := map[uint64]api.Record{}
	img := w.c.Disk(n)
	for _, r := range recordsOf(w.t, img, whole(1), whole(img.Files[0].Number)) {
		switch r.Kind {
		case api.RVote:
			promised = higher(promised, r.Bal)
			if v, is := votes[r.Slot]; !is || below(v.Bal, r.Bal) {
				votes[r.Slot] = r
			}
		case api.RPromise:
			promised = higher(promised, r.Bal)
		case api.RStart:
			begun = higher(begun, r.Bal)
		case api.RLow:
			low = max(low, r.Slot)
		case api.RCheck:
			mark = max(mark, r.Slot)
		}
	}
	h := &w.hosts[n]
	if below(promised, h.promised) || below(begun, h.begun) || mark < h.mark || low < h.low {
		w.t.Fatalf("replica %d has told %+v, its disk has %v, %v, %d, %d", n, h, promised, begun, mark, low)
	}
	h.low = low
	h.votes = slices.DeleteFunc(h.votes, func(m api.Msg) bool { return m.Slot < low }) // as the point never falls, these are backed for good
	for _, m := range h.votes {
		v, is := votes[m.Slot]
		if !is || below(v.Bal, m.Bal) || v.Bal == m.Bal && !same(v.Batch, m.Batch) {
			w.t.Fatalf("replica %d has forgotten its vote %+v: %+v", n, m, v)
		}
	}
}

// P16.7: whatever the network, the clocks and the crashes do, all replicas run the same batches in the same slots (W1), are the one machine wherever they are, and answer what it answers (W2, W4), no money is lost or made (W5), and what was sent is backed by the disk (W6).
func TestP16_7OneMachine(t *testing.T) {
	counts := map[string]int{}
	for at, s := range shapes() {
		for run := range 6 {
			c := begun(t, s)
			w := newWatch(t, s, c, counts)
			d := newChaos(t, s, c, uint64(1000+100*at+run))
			for range 3000 {
				w.do(d.event())
			}
		}
	}
	for what, least := range map[string]int{"slots": 500, "ran": 2000, "installed": 100, "begun again": 500, "replied": 500, "held": 500} {
		if counts[what] < least {
			t.Errorf("%s: only %d times", what, counts[what])
		}
	}
}
