package replica_test

import (
	"testing"

	"quorum/api"
)

// The chapter's examples, one behind the other.
func TestExamples(t *testing.T) {
	first := bal(1, 0)
	r := begun(t, 0)
	beats := toAll(3, beat(first, 0, false))
	start := []api.Record{{Kind: api.RStart, Bal: first}}
	isRound(t, "1", round(t, r, 0, 0, api.Msg{}), outs{
		api.ActEnter: {Recs: start, Sends: toAll(3, prepare(first))},
		api.ActBeat:  {Sends: append(beats, toAll(3, prepare(first))...)},
	})
	isRound(t, "2", round(t, r, 0, 0, prepare(first)), outs{
		api.ActPacket: {Recs: []api.Record{{Kind: api.RPromise, Bal: first}}, Sends: sent(0, promise(first, 0))},
	})
	isRound(t, "3", round(t, r, 0, 0, promise(first, 0)), nil)
	isRound(t, "3", round(t, r, 0, 1, promise(first, 0)), outs{
		api.ActLead: {Sends: toAll(3, lead(first, 0))},
	})
	b := batch(1, req(300, 1, transfer(30)...))
	isRound(t, "4", round(t, r, 1, 300, request(1, transfer(30)...)), outs{
		api.ActNominate: {Sends: toAll(3, propose(first, 0, b))},
	})
	isRound(t, "5", round(t, r, 1, 0, accept(first, 0, b)), nil)
	isRound(t, "5", round(t, r, 1, 1, accept(first, 0, b)), outs{
		api.ActRun: {Ran: true, Batch: b, Sends: replied(300, 1, 1)},
	})
	isRound(t, "6", round(t, r, 2, 300, request(1, transfer(30)...)), outs{
		api.ActPacket: {Sends: replied(300, 1, 1)},
	})
}

// The README's lines on this package.
func TestReadme(t *testing.T) {
	c := api.Config{F: 1, MaxBatch: 4, Window: 8, Every: 2, Beat: 3, Epoch: 20, EpochMax: 80, MaxNum: 1000, MaxSlot: 1000}
	r := begunOf(t, c, 0, 0)
	var log []api.Record
	var sends []api.Send
	for range api.Actions {
		out := r.Act(api.ReplicaIn{Now: 7})
		if len(out.Base) > 0 {
			log = nil
		}
		log = append(append(log, out.Base...), out.Recs...)
		sends = append(sends, out.Sends...)
	}
	first := bal(1, 0)
	again := append(toAll(3, beat(first, 0, false)), toAll(3, prepare(first))...)
	if !same(log, []api.Record{{Kind: api.RStart, Bal: first}}) || !same(sends, append(toAll(3, prepare(first)), again...)) {
		t.Errorf("the first turns: %+v, %+v", log, sends)
	}
	out := r.Act(api.ReplicaIn{Now: 8, Has: true, Src: 0, Msg: api.Msg{Kind: api.KPrepare, Bal: api.Ballot{Num: 1}}})
	isOut(t, "its own KPrepare", out, api.ReplicaOut{Recs: []api.Record{{Kind: api.RPromise, Bal: first}}, Sends: sent(0, promise(first, 0))})
	log = append(log, out.Recs...)
	r = recoveredOf(t, c, 0, log, 9)
	if s := r.State(); s.Acceptor.Max != first || s.Proposer.Bal != first || s.Proposer.Phase != api.Idle {
		t.Errorf("begun again: %+v", s)
	}
	idle(t, "never again", r, api.ActEnter, 9)
}
