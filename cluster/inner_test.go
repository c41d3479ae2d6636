package cluster

import (
	"testing"

	"quorum/api"
)

// Who may send a replica what: no packet of every kind comes from every address, so this is asked directly.
func TestP16_2Fits(t *testing.T) {
	for _, f := range []int{1, 3} {
		h, err := newHost(api.Config{F: f, MaxBatch: 1, Window: 1, Every: 1, Beat: 1, Epoch: 1, EpochMax: 1, MaxNum: 1, MaxSlot: 1}, 0, nil)
		if err != nil {
			t.Fatal(err)
		}
		for _, from := range []api.Addr{0, 1, 2, 3, 6, 7, 255, 256, 300, 1<<64 - 1} {
			for kind := api.KRequest; kind <= api.KGive; kind++ {
				peer, asks := from <= api.Addr(2*f), from >= 256
				want := kind == api.KRequest && asks || kind >= api.KPrepare && peer
				if got := h.fits(from, kind); got != want {
					t.Errorf("F %d: kind %d from %d fits: %v", f, kind, from, got)
				}
			}
		}
	}
}

// A client takes nothing but a reply, from nobody but a replica.
func TestP16_2Hand(t *testing.T) {
	c, err := New(api.Setup{
		Config:  api.Config{F: 1, MaxBatch: 1, Window: 1, Every: 1, Beat: 1, Epoch: 1, EpochMax: 1, MaxNum: 1, MaxSlot: 1},
		Clients: []api.ClientSetup{{Id: 256, Resend: 1}},
	})
	if err != nil {
		t.Fatal(err)
	}
	if _, err := c.Do(api.Event{Kind: api.ESend, Client: 256}); err != nil {
		t.Fatal(err)
	}
	reply := addSent(nil, 0, api.Send{Msg: api.Msg{Kind: api.KReply, Seq: 1}})[0].Data
	asked := addSent(nil, 0, api.Send{Msg: api.Msg{Kind: api.KRequest, Seq: 1}})[0].Data
	for _, x := range []struct {
		from api.Addr
		data []byte
		want int
	}{{3, reply, 0}, {255, reply, 0}, {256, reply, 0}, {0, asked, 0}, {0, reply[1:], 0}, {0, nil, 0}, {2, reply, 1}, {1, reply, 0}} {
		turn := &turn{Cluster: c}
		turn.hand(api.Packet{From: x.from, To: 256, Data: x.data})
		if len(turn.seen) != x.want {
			t.Errorf("%x from %d: seen %+v", x.data, x.from, turn.seen)
		}
	}
}
