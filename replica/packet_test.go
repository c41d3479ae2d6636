package replica_test

import (
	"testing"

	"quorum/api"
	"quorum/replica"
)

// heard is what a packet gives to the first action.
func heard(now uint64, src api.Addr, m api.Msg) api.ReplicaIn {
	return api.ReplicaIn{Now: now, Has: true, Src: src, Msg: m}
}

// Without Has there is no packet, whatever the rest says.
func TestP15_4NoPacket(t *testing.T) {
	r := leading(t, small())
	for _, m := range []api.Msg{prepare(bal(2, 1)), request(1), beat(bal(3, 1), 4, true), lead(bal(9, 2), 6)} {
		turn(t, r, api.ActPacket, 0)
		changes(t, "no packet", r, api.ReplicaIn{Src: api.Addr(m.Bal.Node), Msg: m}, api.ReplicaOut{}, func(*api.ReplicaState) {})
	}
}

// A request that is new waits with the election, and with a proposer that is not idle.
func TestP15_4Request(t *testing.T) {
	for _, src := range []api.Addr{256, 257, 300, 1 << 40, most} {
		for _, seq := range []uint64{1, 2, most} {
			for _, n := range []int{0, 1, api.MaxCmd} {
				waits := api.Request{Client: uint64(src), Seq: seq, Cmd: append([]byte(nil), make([]byte, n)...)}
				m := request(seq, make([]byte, n)...)
				changes(t, "a follower", begun(t, 1), heard(3, src, m), api.ReplicaOut{}, func(s *api.ReplicaState) {
					s.Election.This = []api.Request{waits}
				})
				changes(t, "a leader", leading(t, small()), heard(3, src, m), api.ReplicaOut{}, func(s *api.ReplicaState) {
					s.Election.This = []api.Request{waits}
					s.Proposer.Queue = []api.Request{waits}
				})
			}
		}
	}
}

func TestP15_4RequestRefused(t *testing.T) {
	r := leading(t, small())
	for _, src := range []api.Addr{0, 1, 2, 3, 255} {
		silent(t, "no client", r, 0, src, request(1))
	}
	silent(t, "number 0", r, 0, 300, request(0))
	silent(t, "a command too long", r, 0, 300, request(1, make([]byte, api.MaxCmd+1)...))
	ran(t, r, 1, batch(1, req(300, 3, transfer(30)...)))
	silent(t, "an older one", r, 1, 300, request(2))
	silent(t, "an older one", r, 1, 300, request(1))
	silent(t, "one that has run, with a command too long", r, 1, 300, request(3, make([]byte, api.MaxCmd+1)...))
	silent(t, "one that has run, of another", r, 1, 255, request(3))
}

// The reply to a client's last request is told again, with its data, whatever the command is now; what has run since changes nothing.
func TestP15_4ReplyAgain(t *testing.T) {
	r := begun(t, 2)
	out := ran(t, r, 1, batch(7, req(300, 3, transfer(30)...), req(301, 1, balance()...)))
	data := append(make([]byte, 7), 30, 0, 0, 0, 0, 0, 0, 1, 244)
	reply := api.Msg{Kind: api.KReply, Seq: 1, Stamp: 7, Data: data}
	if !same(out.Sends, append(replied(300, 3, 7), sent(301, reply)...)) {
		t.Errorf("the replies: %+v", out.Sends)
	}
	ran(t, r, 2, batch(9, req(300, 4, 99)))
	for range 3 {
		for _, cmd := range [][]byte{balance(), nil, transfer(1)} {
			turn(t, r, api.ActPacket, 9)
			changes(t, "again", r, heard(9, 301, request(1, cmd...)), api.ReplicaOut{Sends: sent(301, reply)}, func(*api.ReplicaState) {})
			turn(t, r, api.ActPacket, 9)
			refused := sent(300, api.Msg{Kind: api.KReply, Seq: 4, Stamp: 9, Code: api.ErrDealCommand})
			changes(t, "a refusal again", r, heard(9, 300, request(4, cmd...)), api.ReplicaOut{Sends: refused}, func(*api.ReplicaState) {})
		}
	}
	turn(t, r, api.ActPacket, 9)
	changes(t, "the next one", r, heard(9, 301, request(2)), api.ReplicaOut{}, func(s *api.ReplicaState) {
		s.Election.This = []api.Request{req(301, 2)}
	})
}

// leaders are the kinds that a ballot's leader sends.
func leaders(b api.Ballot) []api.Msg {
	return []api.Msg{prepare(b), propose(b, 3, batch(5)), lead(b, 0), lead(b, 9)}
}

// With a ballot that is none, or from another than its leader, nothing is heard, not even the view.
func TestP15_4NoLeader(t *testing.T) {
	for self := range 3 {
		r := begun(t, self)
		for what, b := range badBallots() {
			for _, m := range leaders(b) {
				for _, src := range append(strangers(3), 0, 1, 2, api.Addr(b.Node)) {
					silent(t, what, r, 0, src, m)
				}
			}
		}
		for _, b := range []api.Ballot{bal(1, 1), bal(2, 0), bal(100, 2)} {
			for _, m := range leaders(b) {
				for _, src := range append(strangers(3), api.Addr(b.Node+1)%3, api.Addr(b.Node+2)%3) {
					silent(t, "another than the leader", r, 0, src, m)
				}
			}
		}
	}
}

// higher is what hearing of a higher view does to an election.
func higher(s *api.ReplicaState, b api.Ballot, now uint64) {
	s.Election.View = b
	s.Election.Suspects = 0
	s.Election.Length = 20
	s.Election.EpochEnd = now + 20
}

// A leader's ballot is heard like a beat that suspects nothing and tells no mark, then the message goes to its role.
func TestP15_4Leader(t *testing.T) {
	for _, b := range []api.Ballot{bal(1, 1), bal(1, 2), bal(2, 0), bal(100, 2)} {
		m := prepare(b)
		m.Suspect, m.Slot, m.Low = true, 9, 9
		changes(t, "KPrepare", begun(t, 0), heard(3, api.Addr(b.Node), m),
			api.ReplicaOut{Recs: []api.Record{{Kind: api.RPromise, Bal: b}}, Sends: sent(api.Addr(b.Node), promise(b, 0))},
			func(s *api.ReplicaState) {
				higher(s, b, 3)
				s.Acceptor.Max = b
			})
		x := batch(5, req(300, 1, 7))
		m = propose(b, 3, x)
		m.Suspect, m.Low = true, 9
		changes(t, "KPropose", begun(t, 0), heard(3, api.Addr(b.Node), m),
			api.ReplicaOut{Recs: []api.Record{{Kind: api.RVote, Bal: b, Slot: 3, Batch: x}}, Sends: toAll(3, accept(b, 3, x))},
			func(s *api.ReplicaState) {
				higher(s, b, 3)
				s.Acceptor.Max = b
				s.Acceptor.Votes = []api.Vote{{Slot: 3, Bal: b, Batch: x}}
			})
		m = lead(b, 0)
		m.Suspect, m.Slot = true, 9
		changes(t, "KLead", begun(t, 0), heard(3, api.Addr(b.Node), m), api.ReplicaOut{}, func(s *api.ReplicaState) {
			higher(s, b, 3)
		})
	}
}

// A ballot below the view, or below what was promised, is heard by neither; in the view itself nothing changes but what the role does.
func TestP15_4LeaderBelow(t *testing.T) {
	r := begun(t, 0)
	hear(t, r, 0, 1, prepare(bal(3, 1)))
	for _, b := range []api.Ballot{bal(1, 0), bal(2, 2), bal(3, 0)} {
		for _, m := range leaders(b)[:3] {
			silent(t, "a lower ballot", r, 0, api.Addr(b.Node), m)
		}
	}
	turn(t, r, api.ActPacket, 0)
	changes(t, "the same ballot", r, heard(0, 1, prepare(bal(3, 1))), api.ReplicaOut{Sends: sent(1, promise(bal(3, 1), 0))}, func(*api.ReplicaState) {})
	// what the acceptor refuses the election has heard
	turn(t, r, api.ActPacket, 0)
	changes(t, "a slot past the last one", r, heard(0, 2, propose(bal(3, 2), 1000, batch(0))), api.ReplicaOut{}, func(s *api.ReplicaState) {
		s.Election.View, s.Election.Length, s.Election.EpochEnd = bal(3, 2), 40, 40
	})
}

// A view that another replica suspects is not suspected by its leader's messages.
func TestP15_4LeaderSuspected(t *testing.T) {
	r := begun(t, 2)
	hear(t, r, 0, 0, beat(bal(1, 0), 0, true))
	if r.State().Election.Suspects != 1 {
		t.Fatal("KBeat: nobody suspects")
	}
	turn(t, r, api.ActPacket, 0)
	changes(t, "KLead", r, heard(0, 0, lead(bal(1, 0), 0)), api.ReplicaOut{}, func(*api.ReplicaState) {})
}

// fetching is a fetcher's state that has just asked for a slot.
func fetching(slot uint64, from int, now uint64) api.FetcherState {
	return api.FetcherState{Goal: slot, From: from, Last: now}
}

// behindThree is a replica at its first action that has run three slots, of which the fourth is decided or not.
func behindThree(t testing.TB, self int, decided bool) *replica.Replica {
	t.Helper()
	r := begun(t, self)
	ran(t, r, 0, batch(1))
	ran(t, r, 0, batch(1))
	if decided {
		decide(t, r, 0, 3, batch(2)) // ahead of slot 2: it waits for its turn
	}
	ran(t, r, 0, batch(1))
	turn(t, r, api.ActPacket, 0)
	if s := r.State(); s.Machine.Slot != 3 || s.Mark != 2 || (len(s.Learner.Tallies) == 1) != decided {
		t.Fatalf("not behind three slots: %+v", s)
	}
	return r
}

// A leader's low above what has run begins a fetch, whatever is decided.
func TestP15_4Lead(t *testing.T) {
	for _, decided := range []bool{false, true} {
		for _, low := range []uint64{0, 1, 2, 3, 1001, most} {
			silent(t, "not above what has run, or above MaxSlot", behindThree(t, 1, decided), 2, 0, lead(bal(1, 0), low))
		}
		for _, low := range []uint64{4, 5, 999, 1000} {
			changes(t, "a fetch", behindThree(t, 1, decided), heard(2, 0, lead(bal(1, 0), low)), api.ReplicaOut{Sends: sent(0, want(low, 0))}, func(s *api.ReplicaState) {
				s.Fetcher = fetching(low, 0, 2)
			})
		}
	}
}

// With a higher ballot the view is heard too, also where there is nothing to fetch.
func TestP15_4LeadHigher(t *testing.T) {
	for _, low := range []uint64{0, 3, 1001, most} {
		changes(t, "no fetch", behindThree(t, 1, false), heard(2, 2, lead(bal(1, 2), low)), api.ReplicaOut{}, func(s *api.ReplicaState) {
			higher(s, bal(1, 2), 2)
		})
	}
	changes(t, "a fetch", behindThree(t, 1, false), heard(2, 2, lead(bal(1, 2), 4)), api.ReplicaOut{Sends: sent(2, want(4, 0))}, func(s *api.ReplicaState) {
		higher(s, bal(1, 2), 2)
		s.Fetcher = fetching(4, 2, 2)
	})
}

func TestP15_4BeatOfNobody(t *testing.T) {
	for _, f := range []int{1, 2, 3} {
		r := begunOf(t, with(func(c *api.Config) { c.F = f }), 0, 0)
		for _, src := range strangers(2*f + 1) {
			if src < api.Addr(2*f+1) {
				continue
			}
			silent(t, "no replica", r, 0, src, beat(bal(1, 0), 4, true))
			silent(t, "no replica", r, 0, src, beat(bal(5, 0), 0, false))
		}
	}
}

// A heartbeat is heard by the election and the acceptor; a mark above what has run begins a fetch, unless the next slot is decided.
func TestP15_4Beat(t *testing.T) {
	for _, decided := range []bool{false, true} {
		for _, slot := range []uint64{0, 1, 3, 4, 5, 1000, 1001, most} {
			for _, suspect := range []bool{false, true} {
				for _, b := range []api.Ballot{bal(1, 0), bal(2, 1)} {
					var out api.ReplicaOut
					fetch := slot > 3 && slot <= 1000 && !decided
					if fetch {
						out.Sends = sent(2, want(slot, 0))
					}
					changes(t, "KBeat", behindThree(t, 1, decided), heard(2, 2, beat(b, slot, suspect)), out, func(s *api.ReplicaState) {
						if b == bal(2, 1) {
							higher(s, b, 2)
						}
						if suspect {
							s.Election.Suspects = 4
						}
						if slot <= 1000 {
							s.Acceptor.Marks[2] = slot
						}
						if fetch {
							s.Fetcher = fetching(slot, 2, 2)
						}
					})
				}
			}
		}
	}
}

// Its own heartbeat counts like all others, but it fetches nothing from itself.
func TestP15_4BeatOfItself(t *testing.T) {
	changes(t, "its own", behindThree(t, 1, false), heard(2, 1, beat(bal(2, 2), 6, true)), api.ReplicaOut{}, func(s *api.ReplicaState) {
		higher(s, bal(2, 2), 2)
		s.Election.Suspects = 2
		s.Acceptor.Marks[1] = 6
	})
}

// A view that is none is nothing to the election; the mark counts, and the fetch begins.
func TestP15_4BeatWithoutView(t *testing.T) {
	for what, b := range badBallots() {
		changes(t, what, behindThree(t, 1, false), heard(2, 2, beat(b, 6, true)), api.ReplicaOut{Sends: sent(2, want(6, 0))}, func(s *api.ReplicaState) {
			s.Acceptor.Marks[2] = 6
			s.Fetcher = fetching(6, 2, 2)
		})
	}
}

// Each role has what it is for.
func TestP15_4Promise(t *testing.T) {
	r := begun(t, 0)
	round(t, r, 0, 0, api.Msg{})
	v := api.Vote{Slot: 2, Bal: bal(1, 0), Batch: batch(3, req(300, 1, 8))}
	for _, src := range strangers(3) {
		silent(t, "no replica", r, 0, src, promise(bal(1, 0), 1, v))
	}
	silent(t, "another ballot", r, 0, 2, promise(bal(1, 1), 1, v))
	turn(t, r, api.ActPacket, 0)
	changes(t, "KPromise", r, heard(0, 2, promise(bal(1, 0), 1, v)), api.ReplicaOut{}, func(s *api.ReplicaState) {
		s.Proposer.Promises = []api.Promised{{Node: 2, Low: 1, Votes: []api.Vote{v}}}
	})
	silent(t, "once more", r, 0, 2, promise(bal(1, 0), 1, v))
	silent(t, "to one that is idle", begun(t, 1), 0, 2, promise(bal(1, 0), 1, v))
}

func TestP15_4Accept(t *testing.T) {
	r := begun(t, 0)
	x := batch(3, req(300, 1, 8))
	for _, src := range strangers(3) {
		silent(t, "no replica", r, 0, src, accept(bal(2, 1), 0, x))
	}
	silent(t, "too far ahead", r, 0, 2, accept(bal(2, 1), 16, x))
	turn(t, r, api.ActPacket, 0)
	changes(t, "KAccept", r, heard(0, 2, accept(bal(2, 1), 1, x)), api.ReplicaOut{}, func(s *api.ReplicaState) {
		s.Learner.Tallies = []api.LearnerTally{{Slot: 1, Bal: bal(2, 1), From: 4, Batch: x}}
	})
	silent(t, "once more", r, 0, 2, accept(bal(2, 1), 1, x))
}

func TestP15_4Want(t *testing.T) {
	r := behindThree(t, 1, false)
	data := snapshotOf(t, batch(1), batch(1))
	for _, src := range append(strangers(3), 1) {
		silent(t, "no peer", r, 0, src, want(2, 0))
	}
	silent(t, "a later slot", r, 0, 0, want(3, 0))
	silent(t, "no chunk", r, 0, 0, want(2, 1))
	silent(t, "nothing to supply", begun(t, 1), 0, 0, want(0, 0))
	for _, m := range []api.Msg{want(2, 0), want(1, 0), want(1, 7), want(0, 0)} {
		turn(t, r, api.ActPacket, 0)
		s := r.State().Supplier
		give := api.Msg{Kind: api.KGive, Slot: 2, Count: 1, Root: s.Root, Data: data}
		changes(t, "KWant", r, heard(0, 2, m), api.ReplicaOut{Sends: sent(2, give)}, func(*api.ReplicaState) {})
	}
}

func TestP15_4Give(t *testing.T) {
	give := hear(t, behindThree(t, 1, false), 0, 0, want(2, 0)).Sends[0].Msg
	silent(t, "without a goal", begun(t, 0), 0, 1, give)
	r := begun(t, 0)
	hear(t, r, 0, 2, beat(bal(1, 0), 2, false))
	for _, src := range append(strangers(3), 0) {
		silent(t, "no peer", r, 0, src, give)
	}
	spoilt := give
	spoilt.Root[0]++
	silent(t, "another root", r, 0, 1, spoilt)
	turn(t, r, api.ActPacket, 0)
	changes(t, "KGive", r, heard(4, 1, give), api.ReplicaOut{}, func(s *api.ReplicaState) {
		s.Fetcher = api.FetcherState{Goal: 2, From: 1, Count: 1, Root: give.Root, Chunks: [][]byte{give.Data}, Last: 4}
	})
}

// The first of several chunks asks for the next one.
func TestP15_4GiveNext(t *testing.T) {
	r := begun(t, 0)
	big := supplied(t, 8, bytesOf(2500))
	if out := hear(t, r, 0, 1, beat(bal(1, 0), 8, false)); !same(out.Sends, sent(1, want(8, 0))) {
		t.Errorf("KBeat: %+v", out)
	}
	if out := hear(t, r, 0, 2, big[0]); !same(out.Sends, sent(2, want(8, 1))) {
		t.Errorf("KGive: %+v", out)
	}
}

// Replies, and kinds that are none, are nothing, from whomever they come.
func TestP15_4OtherKinds(t *testing.T) {
	r := leading(t, small())
	for _, k := range []api.Kind{0, api.KReply, 11, 12, 100, 1 << 32, 1<<32 + 3, 1<<63 - 1, -1, -8, -1 << 63} {
		for _, src := range append(strangers(3), 0, 1, 2) {
			m := beat(bal(2, 1), 4, true)
			m.Kind, m.Seq, m.Low = k, 1, 5
			silent(t, "no kind", r, 0, src, m)
		}
	}
}

// A packet is looked at by the first action alone.
func TestP15_3OnlyTheFirst(t *testing.T) {
	msgs := []api.Msg{request(1, transfer(3)...), prepare(bal(2, 1)), lead(bal(3, 1), 9), propose(bal(2, 1), 0, batch(1)), beat(bal(2, 2), 8, true), accept(bal(1, 0), 0, batch(1)), promise(bal(1, 0), 0), want(2, 0)}
	for self := range 3 {
		a, b := begun(t, self), begun(t, self)
		for i := range 4 * api.Actions {
			in := api.ReplicaIn{Now: uint64(i)}
			quiet := b.Act(in)
			if i%api.Actions != api.ActPacket {
				in.Has, in.Msg = true, msgs[i%len(msgs)]
				in.Src = one[api.Addr](&dice{uint64(i)}, 0, 1, 2, 300)
			}
			isOut(t, "a packet at another action", a.Act(in), quiet)
			isState(t, "a packet at another action", a, b.State())
		}
	}
}
