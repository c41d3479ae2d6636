package cluster_test

import (
	"testing"

	"quorum/api"
)

// asked is what is seen of a client of an example's cluster that begins a request.
func asked(t testing.TB, event int, client, seq uint64, cmd ...byte) []api.Seen {
	t.Helper()
	first := api.Seen{Event: event, Kind: api.SAsked, Client: client, Seq: seq, Data: cmd}
	return append([]api.Seen{first}, asks(t, event, client, seq, cmd...)...)
}

// asks is what is seen of one that sends its request.
func asks(t testing.TB, event int, client, seq uint64, cmd ...byte) []api.Seen {
	t.Helper()
	return sentToAll(t, event, api.Addr(client), 3, request(seq, cmd...))
}

func TestP16_2Send(t *testing.T) {
	c := begun(t, with(three))
	do(t, c, tick(-1, 4))
	isSeen(t, "the first", do(t, c, send(257, transfer(3)...)), asked(t, 1, 257, 1, transfer(3)...))
	if k := c.Client(257); !same(k, api.ClientLook{Id: 257, Clock: 4, Seq: 1, Waits: true, Sent: 4}) {
		t.Errorf("the first: %+v", k)
	}
	isFlight(t, "the first", c, 257, 0, 257, 1, 257, 2)
	do(t, c, tick(-1, 2))
	isSeen(t, "the second", do(t, c, send(257)), asked(t, 3, 257, 2))
	if k := c.Client(257); !same(k, api.ClientLook{Id: 257, Clock: 6, Seq: 2, Waits: true, Sent: 6}) {
		t.Errorf("the second: %+v", k)
	}
	isSeen(t, "the longest", do(t, c, send(258, make([]byte, 700)...)), asked(t, 4, 258, 1, make([]byte, 700)...))
	if k := c.Client(256); !same(k, api.ClientLook{Id: 256, Clock: 6}) {
		t.Errorf("one that has not asked: %+v", k)
	}
	empty := api.Event{Kind: api.ESend, Client: 256, Data: []byte{}}
	isSeen(t, "an empty list", do(t, c, empty), asked(t, 5, 256, 1))
}

func TestP16_2Again(t *testing.T) {
	c := begun(t, with(three))
	quiet(t, "it has not asked", c, again(256))
	do(t, c, send(256, transfer(1)...), tick(-1, 3))
	isSeen(t, "it waits", do(t, c, again(256)), asks(t, 3, 256, 1, transfer(1)...))
	if k := c.Client(256); k.Sent != 3 || k.Seq != 1 || !k.Waits {
		t.Errorf("it waits: %+v", k)
	}
	quiet(t, "another", c, again(257))
	do(t, c, calm(9))
	if c.Client(256).Waits {
		t.Fatal("it waits still")
	}
	quiet(t, "it waits no more", c, again(256))
	if k := c.Client(256); k.Sent > 8 {
		t.Errorf("it waits no more: %+v", k)
	}
}

// In calm rounds clients that wait ask again, in the setup's order, as soon as their time is there.
func TestP16_2Resend(t *testing.T) {
	s := with(func(s *api.Setup) {
		s.Clients = []api.ClientSetup{{Id: 300, Resend: 4}, {Id: 256, Resend: 2}, {Id: 299, Resend: 1}, {Id: 301, Resend: 1}}
	})
	c := begun(t, s)
	do(t, c, stop(0), stop(1), send(300, 1), send(256, 2), send(299, 3))
	for round := 1; round < 20; round++ {
		var want []uint64
		for _, a := range s.Clients[:3] {
			if uint64(round)%a.Resend == 0 {
				want = append(want, a.Id, a.Id, a.Id)
			}
		}
		var got []uint64
		for _, s := range do(t, c, calm(1)) {
			if s.From >= api.FirstClient {
				got = append(got, uint64(s.From))
			}
		}
		if !same(got, want) {
			t.Errorf("round %d: %v ask, want %v", round, got, want)
		}
		if k := c.Client(300); k.Sent != uint64(round/4*4) || !k.Waits {
			t.Errorf("round %d: %+v", round, k)
		}
	}
	do(t, c, tick(-1, 500))
	if seen := do(t, c, calm(1)); seen[0].From != 300 || seen[3].From != 256 || seen[6].From != 299 {
		t.Errorf("long behind its time: %+v", seen)
	}
}

// A client at the end of time asks no more by itself.
func TestP16_2ResendAtTheEnd(t *testing.T) {
	c := begun(t, example())
	do(t, c, stop(0), stop(1), tick(-1, api.MaxTick-3), send(256, 1))
	if seen := do(t, c, calm(40)); len(seen) > 3 {
		t.Errorf("seen %+v", seen)
	}
	if k := c.Client(256); k.Sent != api.MaxTick-3 || k.Clock != api.MaxTick {
		t.Errorf("%+v", k)
	}
}

// W4: a request that is sent often, doubled and forged changes the house once, and is answered with the same bytes each time.
func TestP16_7AtMostOnce(t *testing.T) {
	s := example()
	c, _ := led(t, s)
	do(t, c, send(256, transfer(10)...))
	for i := range 20 {
		do(t, c, again(256), double(i%3), forge(256, i%3, datagram(t, request(1, transfer(10)...))...))
	}
	answers := map[string]int{}
	seen := do(t, c, calm(30))
	for i := range 60 {
		do(t, c, forge(256, i%3, datagram(t, request(1, transfer(byte(10+i/30*89))...))...)) // the last ones: another command under the same number
	}
	seen = append(seen, do(t, c, calm(5))...)
	for _, x := range ofKind(seen, api.SSent) {
		if message(t, x.Data).Kind == api.KReply {
			answers[string(x.Data)]++
		}
	}
	if len(answers) != 1 {
		t.Errorf("%d answers that are unlike: %v", len(answers), answers)
	}
	for what, n := range answers {
		if n < 60 {
			t.Errorf("%x is answered %d times", what, n)
		}
	}
	for n := range 3 {
		if b := c.Node(n).Machine.House.Book.Accounts; b[0].Balance != 90 || b[1].Balance != 10 {
			t.Errorf("replica %d: %+v", n, b)
		}
	}
	do(t, c, send(256, transfer(1)...), calm(9)) // from here on the older one is not answered
	for n := range 3 {
		do(t, c, forge(256, n, datagram(t, request(1, transfer(10)...))...))
	}
	for _, x := range ofKind(do(t, c, calm(9)), api.SSent) {
		if message(t, x.Data).Kind == api.KReply {
			t.Errorf("the older one is answered: %+v", x)
		}
	}
}
