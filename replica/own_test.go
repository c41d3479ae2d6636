package replica_test

import (
	"reflect"
	"testing"

	"quorum/api"
	"quorum/replica"
)

// spoil writes over all that a value reaches, spare room included.
func spoil(v reflect.Value) {
	switch v.Kind() {
	case reflect.Slice:
		whole := v.Slice(0, v.Cap())
		for i := range whole.Len() {
			spoil(whole.Index(i))
		}
	case reflect.Array:
		for i := range v.Len() {
			spoil(v.Index(i))
		}
	case reflect.Struct:
		for i := range v.NumField() {
			spoil(v.Field(i))
		}
	case reflect.Bool:
		v.SetBool(!v.Bool())
	case reflect.Uint8, reflect.Uint32, reflect.Uint64:
		v.SetUint(v.Uint() ^ 0xEE)
	case reflect.Int:
		v.SetInt(v.Int() ^ 0xEE)
	}
}

// spoilt writes over what a pointer points to.
func spoilt(p any) { spoil(reflect.ValueOf(p).Elem()) }

// span is the memory of a list, spare room included.
type span struct{ from, to uintptr }

// spans gives the memory of all lists that a value reaches.
func spans(v reflect.Value, list []span) []span {
	switch v.Kind() {
	case reflect.Slice:
		if v.Cap() > 0 {
			list = append(list, span{v.Pointer(), v.Pointer() + uintptr(v.Cap())*v.Type().Elem().Size()})
		}
		if v.Type().Elem().Kind() == reflect.Uint8 {
			return list
		}
		for i := range v.Len() {
			list = spans(v.Index(i), list)
		}
	case reflect.Struct:
		for i := range v.NumField() {
			list = spans(v.Field(i), list)
		}
	}
	return list
}

// apart wants no two lists of an answer to share any memory, and none to be empty but not nil.
func apart(t testing.TB, what string, answer any) {
	t.Helper()
	list := spans(reflect.ValueOf(answer), nil)
	for i, a := range list {
		for _, b := range list[:i] {
			if a.from < b.to && b.from < a.to {
				t.Fatalf("%s: two lists share memory: %+v", what, answer)
			}
		}
	}
	if empties(reflect.ValueOf(answer)) {
		t.Fatalf("%s: a list without elements is not nil: %+v", what, answer)
	}
}

// empties tells whether a value has a list without elements that is not nil.
func empties(v reflect.Value) bool {
	switch v.Kind() {
	case reflect.Slice:
		if v.Len() == 0 && !v.IsNil() {
			return true
		}
		for i := range v.Len() {
			if v.Type().Elem().Kind() != reflect.Uint8 && empties(v.Index(i)) {
				return true
			}
		}
	case reflect.Struct:
		for i := range v.NumField() {
			if empties(v.Field(i)) {
				return true
			}
		}
	}
	return false
}

// Two replicas are told the same. What one is handed, and what it hands out, is written over at once: they stay alike. No two lists of any answer share memory.
func TestOwn(t *testing.T) {
	seen := map[string]int{}
	for at, c := range shapes() {
		for run := range 4 {
			d := &dice{uint64(50*at + run)}
			self := d.below(2*c.F + 1)
			a, b, s := begunOf(t, c, self, 0), begunOf(t, c, self, 0), newSecond(t, c, self, nil, 0)
			var log []api.Record
			for i := range 2500 {
				in := api.ReplicaIn{Now: uint64(i / 12)}
				mine := in
				if d.below(3) > 0 {
					again := *d
					in.Has, mine.Has = true, true
					in.Src, in.Msg = d.anything(t, c, s)
					mine.Src, mine.Msg = again.anything(t, c, s)
				}
				s.act(in)
				out := b.Act(in)
				got := a.Act(mine)
				if !same(mine, in) {
					t.Fatalf("what was handed in has changed: %+v, was %+v", mine, in)
				}
				if !same(got, out) {
					t.Fatalf("shape %d, run %d: %+v, want %+v", at, run, got, out)
				}
				apart(t, "Act", got)
				note(seen, out)
				log = kept(log, out)
				spoilt(&mine)
				spoilt(&got)
				if state := a.State(); i%7 == 0 {
					apart(t, "State", state)
					spoilt(&state)
				}
				isState(t, "what was handed in or out is written over", a, b.State())
				if t.Failed() {
					t.Fatalf("shape %d, run %d, step %d", at, run, i)
				}
			}
			ownRecords(t, c, self, log)
		}
	}
	for _, what := range []string{"ran", "base", "promise", "propose", "accept", "give", "reply"} {
		if seen[what] < 50 {
			t.Errorf("%s: only %d times", what, seen[what])
		}
	}
}

// ownRecords begins a replica from records and accounts that are written over then.
func ownRecords(t testing.TB, c api.Config, self int, log []api.Record) {
	t.Helper()
	was := recoveredOf(t, c, self, log, 9)
	list := accounts()
	r, err := replica.Recover(c, self, list, log, 9)
	if err != nil || !same(list, accounts()) {
		t.Fatalf("Recover: %v, with %+v", err, list)
	}
	isState(t, "Recover", r, was.State())
	apart(t, "State", r.State())
	state := was.State()
	give := was.Act(heard(9, api.Addr(self+1)%3, want(state.Mark, 0)))
	spoilt(&log)
	spoilt(&list)
	isOut(t, "records are written over", r.Act(heard(9, api.Addr(self+1)%3, want(state.Mark, 0))), give)
	isState(t, "records are written over", r, was.State())
}

// A spoilt record is not the replica's: Recover leaves what it is handed as it was.
func TestOwnHandedIn(t *testing.T) {
	g := good(t)
	recoveredOf(t, g.c, g.self, g.recs, g.now)
	if !same(g, good(t)) {
		t.Errorf("Recover has changed what it was handed: %+v", g)
	}
	g.recs[5].Slot = 1000
	if _, err := replica.Recover(g.c, g.self, g.accounts, g.recs, g.now); err == nil {
		t.Error("not refused")
	}
	g.recs[5].Slot = 3
	if !same(g, good(t)) {
		t.Errorf("a refusal has changed what was handed in: %+v", g)
	}
}

// A replica that is nil, or that neither call made.
func TestNobody(t *testing.T) {
	group := begun(t, 0).Group
	for what, r := range map[string]*replica.Replica{"nil": nil, "plain": {}, "with a group": {Group: group}} {
		for i := range 25 {
			in := api.ReplicaIn{Now: uint64(i)}
			if i%2 == 0 {
				in = heard(uint64(i), 0, prepare(bal(1, 0)))
			}
			isOut(t, what, r.Act(in), api.ReplicaOut{})
			isState(t, what, r, api.ReplicaState{})
		}
	}
}

// The state is the whole replica, as plain data.
func TestP15_15State(t *testing.T) {
	r, batches := full(t)
	s := r.State()
	if s.Action != 0 || s.Now != 4 || s.BeatAt != 5 || s.Mark != 2 {
		t.Errorf("its own part: %+v", s)
	}
	if s.Acceptor.Max != bal(7, 2) || s.Acceptor.Low != 2 || len(s.Acceptor.Votes) != 4 || !same(s.Acceptor.Marks, []uint64{2, 2, 0}) {
		t.Errorf("acceptor: %+v", s.Acceptor)
	}
	if s.Election.View != bal(7, 2) || s.Election.Length != 20 || s.Learner.Low != 3 || s.Supplier.Slot != 2 || s.Fetcher.Goal != 0 {
		t.Errorf("roles: %+v", s)
	}
	if !same(s.Machine, machineOf(t, batches[:3]...).Image()) {
		t.Errorf("machine: %+v", s.Machine)
	}
	if !same(s.Proposer, api.ProposerState{Bal: bal(1, 0)}) { // it leads no more
		t.Errorf("proposer: %+v", s.Proposer)
	}
	if !same(r.State(), s) {
		t.Error("State changes what it tells")
	}
}
