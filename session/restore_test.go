package session_test

import (
	"strings"
	"testing"

	"quorum/api"
	"quorum/deal"
	"quorum/session"
)

// refusesImage wants an image to be refused so, and left as it was.
func refusesImage(t *testing.T, what string, img api.Image, why api.Errno, at int) {
	t.Helper()
	was := twin(img)
	m, err := session.Restore(img)
	isFault(t, what, err, why, at)
	if m != nil {
		t.Errorf("%s: a machine beside a refusal", what)
	}
	if !same(img, was) {
		t.Errorf("%s: the image was changed", what)
	}
}

func TestP7_2TheMachineOfItsImage(t *testing.T) {
	for what, img := range map[string]api.Image{
		"a new one":    machine(t).Image(),
		"no accounts":  begun(t).Image(),
		"the examples": example2(t).Image(),
		"a rich one":   rich(t),
	} {
		was := twin(img)
		m := restored(t, img)
		if is := m.Image(); !same(is, was) || !same(img, was) {
			t.Errorf("%s: Restore gives\n%v, of\n%v", what, is, was)
		}
		if m.Slot() != img.Slot || m.Now() != img.Now {
			t.Errorf("%s: slot %d, time %d, want %d and %d", what, m.Slot(), m.Now(), img.Slot, img.Now)
		}
	}
}

// At a limit all is as below it.
func TestP7_2AtTheLimits(t *testing.T) {
	full := rich(t)
	full.Slot, full.Now, full.Sessions = api.MaxSlots, api.MaxTick, nil
	for i := range uint64(api.MaxClients) {
		full.Sessions = append(full.Sessions, api.Session{Client: 256 + i, Seq: most, Stamp: api.MaxTick, Code: api.MaxCode, Data: []byte(strings.Repeat("\xff", api.MaxData))})
	}
	full.Sessions[15].Client = most
	least := rich(t)
	least.Slot, least.Now, least.Sessions = 1, 0, []api.Session{{Client: 256, Seq: 1}}
	bare := rich(t) // time and clients are not asked for
	bare.Slot, bare.Now, bare.Sessions = 1, 0, nil
	first := rich(t) // a house in which much has happened may be at slot 0
	first.Slot, first.Now, first.Sessions = 0, 0, nil
	for what, img := range map[string]api.Image{"full": full, "least": least, "bare": bare, "first": first} {
		if is := restored(t, img).Image(); !same(is, img) {
			t.Errorf("%s: Restore gives\n%v, of\n%v", what, is, img)
		}
		if is := loaded(t, snapshot(t, restored(t, img))).Image(); !same(is, img) {
			t.Errorf("%s: Load of the Snapshot gives\n%v, of\n%v", what, is, img)
		}
	}
}

// A list without elements is nil in what is told, whether it was nil or empty.
func TestP7_2EmptyAndNil(t *testing.T) {
	img := rich(t)
	want := twin(img)
	want.Sessions[0].Data, want.Sessions[1].Data = nil, nil
	img.Sessions[0].Data, img.Sessions[1].Data = []byte{}, nil
	m := restored(t, img)
	if is := m.Image(); !same(is, want) {
		t.Errorf("Restore gives\n%v, want\n%v", is, want)
	}
	got, code := m.Ask(300, 2)
	if code != api.OK || got.Data != nil {
		t.Errorf("Ask: %v %d", got, code)
	}
	runs(t, m, batch(1, ask(300, 2, nil)), reply(300, 2, 7, api.OK))

	img = machine(t).Image()
	img.Sessions = []api.Session{}
	if is := restored(t, img).Image(); is.Sessions != nil || !same(is, machine(t).Image()) {
		t.Errorf("Restore gives %v", is)
	}
}

// turn is one thing that is wrong with an image; rank is its place in the order of the refusals.
type turn struct {
	what string
	rank int
	why  api.Errno
	at   int
	do   func(*api.Image)
}

func turns() []turn {
	long := make([]byte, api.MaxData+1)
	return []turn{
		{"a slot one too great", 0, api.ErrSessionClock, 0, func(m *api.Image) { m.Slot = api.MaxSlots + 1 }},
		{"the greatest slot", 0, api.ErrSessionClock, 0, func(m *api.Image) { m.Slot = most }},
		{"sessions and a time at slot 0", 0, api.ErrSessionClock, 0, func(m *api.Image) { m.Slot = 0 }},
		{"a time one too great", 1, api.ErrSessionClock, 1, func(m *api.Image) { m.Now = api.MaxTick + 1 }},
		{"the greatest time", 1, api.ErrSessionClock, 1, func(m *api.Image) { m.Now = most }},
		{"one session too many", 2, api.ErrSessionOrder, api.MaxClients, func(m *api.Image) { grow(m, api.MaxClients+1) }},
		{"many sessions too many", 2, api.ErrSessionOrder, api.MaxClients, func(m *api.Image) { grow(m, 100) }},
		{"client 255", 3, api.ErrSessionOrder, 0, func(m *api.Image) { m.Sessions[0].Client = 255 }},
		{"client 0", 3, api.ErrSessionOrder, 0, func(m *api.Image) { m.Sessions[0].Client = 0 }},
		{"a first number 0", 4, api.ErrSessionReply, 0, func(m *api.Image) { m.Sessions[0].Seq = 0 }},
		{"a first stamp to come", 4, api.ErrSessionReply, 0, func(m *api.Image) { m.Sessions[0].Stamp = m.Now + 1 }},
		{"the greatest stamp", 4, api.ErrSessionReply, 0, func(m *api.Image) { m.Sessions[0].Stamp = most }},
		{"code 1024", 4, api.ErrSessionReply, 0, func(m *api.Image) { m.Sessions[0].Code = api.MaxCode + 1 }},
		{"code -1", 4, api.ErrSessionReply, 0, func(m *api.Image) { m.Sessions[0].Code = -1 }},
		{"257 bytes", 4, api.ErrSessionReply, 0, func(m *api.Image) { m.Sessions[0].Data = long }},
		{"a client twice", 5, api.ErrSessionOrder, 1, func(m *api.Image) { m.Sessions[1].Client = m.Sessions[0].Client }},
		{"a client below the one ahead", 5, api.ErrSessionOrder, 1, func(m *api.Image) { m.Sessions[1].Client = m.Sessions[0].Client - 1 }},
		{"a second number 0", 6, api.ErrSessionReply, 1, func(m *api.Image) { m.Sessions[1].Seq = 0 }},
		{"a second stamp to come", 6, api.ErrSessionReply, 1, func(m *api.Image) { m.Sessions[1].Stamp = m.Now + 1 }},
		{"a second code -1", 6, api.ErrSessionReply, 1, func(m *api.Image) { m.Sessions[1].Code = -1 }},
		{"a second code 1024", 6, api.ErrSessionReply, 1, func(m *api.Image) { m.Sessions[1].Code = api.MaxCode + 1 }},
		{"a second 257 bytes", 6, api.ErrSessionReply, 1, func(m *api.Image) { m.Sessions[1].Data = long }},
		{"the last client twice", 7, api.ErrSessionOrder, 2, func(m *api.Image) { m.Sessions[2].Client = m.Sessions[1].Client }},
		{"the last code -1", 8, api.ErrSessionReply, 2, func(m *api.Image) { m.Sessions[2].Code = -1 }},
		{"a house that is none", 9, 0, 0, func(m *api.Image) { m.House.Book.Accounts[0].Balance++ }},
	}
}

// grow lays more sessions behind those that are there.
func grow(m *api.Image, n int) {
	for i := len(m.Sessions); i < n; i++ {
		m.Sessions = append(m.Sessions, api.Session{Client: 900 + uint64(i), Seq: 1})
	}
}

func (x turn) holds(t *testing.T, what string, img api.Image) {
	t.Helper()
	if x.why != api.OK {
		refusesImage(t, what, img, x.why, x.at)
		return
	}
	_, lower := deal.Restore(img.House)
	_, err := session.Restore(img)
	isLower(t, what, err, lower)
}

func TestP7_2Refusals(t *testing.T) {
	for _, x := range turns() {
		img := rich(t)
		x.do(&img)
		x.holds(t, x.what, img)
	}
}

// Where several reasons apply the answer is the one that the chapter names first.
func TestP7_2TheFirstReason(t *testing.T) {
	for _, x := range turns() {
		for _, y := range turns() {
			if x.rank >= y.rank {
				continue
			}
			for _, both := range [][2]turn{{x, y}, {y, x}} {
				img := rich(t)
				for _, z := range both {
					z.do(&img)
				}
				if x.rank == 1 && y.what == "a first stamp to come" {
					continue // there is none behind the greatest time
				}
				x.holds(t, x.what+" and "+y.what, img)
			}
		}
	}
}

func TestP7_2AtSlot0(t *testing.T) {
	img := rich(t)
	img.Slot, img.Now = 0, 0
	refusesImage(t, "sessions at slot 0", img, api.ErrSessionClock, 0)
	img.Sessions = []api.Session{{Client: 300, Seq: 1}}
	refusesImage(t, "one session at slot 0", img, api.ErrSessionClock, 0)
	img.Slot, img.Now, img.Sessions = 0, 9, nil
	refusesImage(t, "a time at slot 0", img, api.ErrSessionClock, 0)
	img.Now = 1
	refusesImage(t, "time 1 at slot 0", img, api.ErrSessionClock, 0)
	img.Now = most
	refusesImage(t, "the greatest time at slot 0", img, api.ErrSessionClock, 0)
}

// Behind the greatest client there is none: its successor must not be taken for 0.
func TestP7_2BehindTheGreatestClient(t *testing.T) {
	for _, client := range []uint64{most, 0, 255, 256, 257, 300, most - 1} {
		img := rich(t)
		img.Sessions[1].Client = most
		img.Sessions[2].Client = client
		refusesImage(t, "a client behind the greatest one", img, api.ErrSessionOrder, 2)
	}
}

// What deal.Restore refuses comes through with its place.
func TestP7_2HousesThatAreNone(t *testing.T) {
	for what, do := range map[string]func(*api.HouseImage){
		"the total":      func(h *api.HouseImage) { h.Book.Total++ },
		"the journal":    func(h *api.HouseImage) { h.Book.Next = 0 },
		"an account":     func(h *api.HouseImage) { h.Book.Accounts[2].ID = 2 },
		"a deal's phase": func(h *api.HouseImage) { h.Deals[1].Phase = 9 },
		"a deal's terms": func(h *api.HouseImage) { h.Deals[0].Terms = "on" },
		"the last deal":  func(h *api.HouseImage) { h.Deals[1].Amount = 0 },
		"a hold alone":   func(h *api.HouseImage) { h.Deals = h.Deals[1:] },
		"the ends":       func(h *api.HouseImage) { h.Ends = most },
	} {
		img := rich(t)
		do(&img.House)
		_, lower := deal.Restore(img.House)
		m, err := session.Restore(img)
		isLower(t, what, err, lower)
		if m != nil {
			t.Errorf("%s: a machine beside a refusal", what)
		}
	}
}

func TestP7_2NothingIsKept(t *testing.T) {
	img := rich(t)
	was := twin(img)
	m := restored(t, img)
	img.Sessions[2].Data[0] = 99
	img.Sessions[0].Seq = 99
	img.House.Book.Accounts[0].Balance = 99
	img.House.Deals[0].Amount = 99
	if !same(m.Image(), was) {
		t.Error("what was handed in is kept")
	}
	again := twin(was)
	m = restored(t, again)
	runs(t, m, batch(10, ask(300, 3, none), ask(302, 2, none), ask(304, 1, none)),
		reply(300, 3, 10, api.ErrDealCommand), reply(302, 2, 10, api.ErrDealCommand), reply(304, 1, 10, api.ErrDealCommand))
	if !same(again, was) {
		t.Error("what was handed in is changed by a batch")
	}
	one, two := restored(t, was), restored(t, was)
	runs(t, one, batch(10, ask(300, 3, none)), reply(300, 3, 10, api.ErrDealCommand))
	if !same(two.Image(), was) {
		t.Error("two machines of one image share something")
	}
}
