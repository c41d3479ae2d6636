package ledger_test

import (
	"math"
	"reflect"
	"testing"

	"quorum/api"
	"quorum/ledger"
)

func TestP2_11RestoreGivesTheImageBack(t *testing.T) {
	for _, img := range []api.LedgerImage{
		{Next: 1},
		{Next: 1, Total: most, Accounts: []api.Account{{ID: 1, Balance: most, Cap: most}, {ID: most, Owner: most}}},
		{Next: 1, Total: most, Accounts: []api.Account{{ID: 1, Cap: 0}}, Holds: []api.Hold{{ID: 1, From: 1, Amount: most - 1}, {ID: most, From: 1, Amount: 1}}},
		late(1), late(2), late(3), late(64), late(65), late(66), late(1000), late(1<<62 - 1), late(1 << 62),
	} {
		l := restored(t, img)
		isImage(t, "Restore", l, img)
		if l.Total() != img.Total {
			t.Errorf("Total %d, want %d", l.Total(), img.Total)
		}
		play(t, l, undo(1, api.ErrLedgerMark), keep(1, api.ErrLedgerMark), marked(1))
	}
	isImage(t, "empty lists", restored(t, api.LedgerImage{Next: 1, Accounts: []api.Account{}, Holds: []api.Hold{}, Journal: []api.Entry{}}), api.LedgerImage{Next: 1})
}

func TestP2_11RestoreAtTheLimits(t *testing.T) {
	img := api.LedgerImage{Total: 192, Next: 1, Accounts: numbered(64)}
	for i := range uint64(64) {
		img.Holds = append(img.Holds, api.Hold{ID: i + 5, From: i + 1, Amount: 1})
	}
	l := restored(t, img)
	isImage(t, "all is full", l, img)
	play(t, l, create(99, 1, 1, api.ErrLedgerFull), hold(99, 1, 1, api.ErrLedgerFull))
}

// The ledger goes on where the image ends, journal and all.
func TestP2_11RestoredGoesOn(t *testing.T) {
	for _, next := range []uint64{1, 2, 40, 64, 65, 66, 5000} {
		img := late(next)
		l := restored(t, img)
		play(t, l, marked(1), move(1, 2, 3, api.OK), pay(4, 2, 6, api.OK))
		want := twin(img)
		want.Next += 2
		want.Accounts[0].Balance, want.Accounts[1].Balance = 11, 9
		want.Holds = nil
		want.Journal = append(want.Journal, api.Entry{Seq: next, Kind: 3, From: 1, To: 2, Amount: 3}, api.Entry{Seq: next + 1, Kind: 5, From: 4, To: 2, Amount: 6})
		want.Journal = want.Journal[max(0, len(want.Journal)-64):]
		isImage(t, "two lines on", l, want)
		play(t, l, undo(1, api.OK))
		isImage(t, "and back", l, img)
	}
}

// What else stands in the lines is not looked at.
func TestP2_11LinesMaySayAnything(t *testing.T) {
	img := late(9)
	for i := range img.Journal {
		img.Journal[i] = api.Entry{Seq: uint64(i) + 1, Kind: i%5 + 1, From: most, To: 0, Amount: 0}
	}
	isImage(t, "lines", restored(t, img), img)
}

type wrongImage struct {
	what string
	turn func(m *api.LedgerImage)
	why  api.Errno
	at   int
}

// wrong holds what Restore answers to an image that was made wrong against what is wanted.
func wrong(t *testing.T, rows []wrongImage) {
	t.Helper()
	for _, c := range rows {
		img := late(70)
		img.Holds = append(img.Holds, api.Hold{ID: 8, From: 2, Amount: 3}, api.Hold{ID: 9, From: 1, Amount: 2})
		img.Total = 25
		restored(t, img)
		c.turn(&img)
		was := twin(img)
		l, err := ledger.Restore(img)
		refused(t, c.what, l, err, c.why, c.at)
		if !reflect.DeepEqual(img, was) {
			t.Errorf("%s: Restore changed the image", c.what)
		}
	}
}

func TestP2_11RestoreRefusesAccounts(t *testing.T) {
	wrong(t, []wrongImage{
		{"65 accounts", func(m *api.LedgerImage) { m.Accounts = numbered(65) }, api.ErrLedgerFull, 0},
		{"65 accounts with other faults", func(m *api.LedgerImage) { m.Accounts = make([]api.Account, 65) }, api.ErrLedgerFull, 0},
		{"65 holds", func(m *api.LedgerImage) { m.Holds = make([]api.Hold, 65); m.Accounts[0].ID = 0 }, api.ErrLedgerFull, 0},
		{"number 0", func(m *api.LedgerImage) { m.Accounts[0].ID = 0 }, api.ErrLedgerZero, 0},
		{"number 0, later", func(m *api.LedgerImage) { m.Accounts[1] = api.Account{Balance: 5} }, api.ErrLedgerZero, 1},
		{"the same number", func(m *api.LedgerImage) { m.Accounts[1].ID = 1 }, api.ErrImage, 1},
		{"falling", func(m *api.LedgerImage) { m.Accounts[0].ID = 3 }, api.ErrImage, 1},
		{"the same, and above its cap", func(m *api.LedgerImage) { m.Accounts[1] = api.Account{ID: 1, Balance: 5} }, api.ErrImage, 1},
		{"above its cap", func(m *api.LedgerImage) { m.Accounts[0].Cap = 13 }, api.ErrLedgerCap, 0},
		{"above its cap, later", func(m *api.LedgerImage) { m.Accounts[1].Balance = 91; m.Holds[0].ID = 0 }, api.ErrLedgerCap, 1},
		{"the first of two", func(m *api.LedgerImage) { m.Accounts[0].Cap = 13; m.Accounts[1].ID = 0 }, api.ErrLedgerCap, 0},
	})
}

func TestP2_11RestoreRefusesHolds(t *testing.T) {
	wrong(t, []wrongImage{
		{"number 0", func(m *api.LedgerImage) { m.Holds[0] = api.Hold{} }, api.ErrLedgerZero, 0},
		{"number 0, later", func(m *api.LedgerImage) { m.Holds[2] = api.Hold{From: 7} }, api.ErrLedgerZero, 2},
		{"the same number", func(m *api.LedgerImage) { m.Holds[1] = api.Hold{ID: 4, From: 7} }, api.ErrImage, 1},
		{"falling", func(m *api.LedgerImage) { m.Holds[2].ID = 7 }, api.ErrImage, 2},
		{"of no account", func(m *api.LedgerImage) { m.Holds[1] = api.Hold{ID: 8, From: 3} }, api.ErrLedgerUnknown, 1},
		{"of account 0", func(m *api.LedgerImage) { m.Holds[0].From = 0 }, api.ErrLedgerUnknown, 0},
		{"of a hold's number", func(m *api.LedgerImage) { m.Holds[0].From = 4 }, api.ErrLedgerUnknown, 0},
		{"of 0", func(m *api.LedgerImage) { m.Holds[2].Amount = 0 }, api.ErrLedgerAmount, 2},
		{"of 0, and the total is wrong", func(m *api.LedgerImage) { m.Holds[0].Amount = 0; m.Total = 0; m.Next = 0 }, api.ErrLedgerAmount, 0},
		{"the first of two", func(m *api.LedgerImage) { m.Holds[1].Amount = 0; m.Holds[2].ID = 0 }, api.ErrLedgerAmount, 1},
	})
}

func TestP2_11RestoreRefusesTotals(t *testing.T) {
	wrong(t, []wrongImage{
		{"too low", func(m *api.LedgerImage) { m.Total = 24 }, api.ErrLedgerTotal, 0},
		{"too high", func(m *api.LedgerImage) { m.Total = 26 }, api.ErrLedgerTotal, 0},
		{"0", func(m *api.LedgerImage) { m.Total = 0 }, api.ErrLedgerTotal, 0},
		{"right by wrap, of accounts", func(m *api.LedgerImage) {
			m.Accounts[0] = api.Account{ID: 1, Balance: most, Cap: most}
			m.Accounts[1] = api.Account{ID: 2, Balance: 15, Cap: most}
		}, api.ErrLedgerTotal, 0},
		{"right by wrap, of holds", func(m *api.LedgerImage) { m.Holds[0].Amount = most; m.Holds[1].Amount = 10 }, api.ErrLedgerTotal, 0},
		{"right by wrap, of both", func(m *api.LedgerImage) {
			m.Accounts[0].Cap = most
			m.Accounts[0].Balance = most - 2
			m.Holds[0].Amount = 23
		}, api.ErrLedgerTotal, 0},
		{"wrong, and the lines too", func(m *api.LedgerImage) { m.Total = 1; m.Next = 0; m.Journal[0].Kind = 0 }, api.ErrLedgerTotal, 0},
	})
}

func TestP2_11RestoreRefusesLines(t *testing.T) {
	wrong(t, []wrongImage{
		{"Next 0", func(m *api.LedgerImage) { m.Next = 0 }, api.ErrImage, 0},
		{"Next 0 and no lines", func(m *api.LedgerImage) { m.Next = 0; m.Journal = nil }, api.ErrImage, 0},
		{"Next above MaxLine", func(m *api.LedgerImage) { m.Journal = late(1<<62 + 1).Journal; m.Next = 1<<62 + 1 }, api.ErrImage, 0},
		{"Next the greatest number", func(m *api.LedgerImage) { m.Journal = late(most).Journal; m.Next = most }, api.ErrImage, 0},
		{"Next above MaxLine, and a wrong line", func(m *api.LedgerImage) { m.Next = 1<<62 + 1; m.Journal[5].Kind = 0 }, api.ErrImage, 0},
		{"65 lines", func(m *api.LedgerImage) { m.Journal = append(m.Journal, api.Entry{Seq: 70, Kind: 1}); m.Next = 71 }, api.ErrImage, 0},
		{"63 lines", func(m *api.LedgerImage) { m.Journal = m.Journal[1:] }, api.ErrImage, 0},
		{"no lines", func(m *api.LedgerImage) { m.Journal = nil }, api.ErrImage, 0},
		{"a line too many", func(m *api.LedgerImage) {
			m.Next, m.Journal = 3, []api.Entry{{Seq: 0, Kind: 1}, {Seq: 1, Kind: 1}, {Seq: 2, Kind: 1}}
		}, api.ErrImage, 0},
		{"a line too few", func(m *api.LedgerImage) { m.Next, m.Journal = 3, []api.Entry{{Seq: 2, Kind: 1}} }, api.ErrImage, 0},
		{"a line and Next 1", func(m *api.LedgerImage) { m.Next, m.Journal = 1, []api.Entry{{Seq: 1, Kind: 1}} }, api.ErrImage, 0},
		{"the first Seq", func(m *api.LedgerImage) { m.Journal[0].Seq = 5 }, api.ErrImage, 0},
		{"the last Seq", func(m *api.LedgerImage) { m.Journal[63].Seq = 70 }, api.ErrImage, 63},
		{"a Seq between", func(m *api.LedgerImage) { m.Journal[9].Seq = 14 }, api.ErrImage, 9},
		{"all are one on", func(m *api.LedgerImage) { m.Journal = late(71).Journal }, api.ErrImage, 0},
		{"a Kind of 0", func(m *api.LedgerImage) { m.Journal[2].Kind = 0 }, api.ErrImage, 2},
		{"a Kind of 6", func(m *api.LedgerImage) { m.Journal[63].Kind = 6 }, api.ErrImage, 63},
		{"a Kind below all", func(m *api.LedgerImage) { m.Journal[0].Kind = math.MinInt }, api.ErrImage, 0},
		{"the first of two", func(m *api.LedgerImage) { m.Journal[7].Kind = -1; m.Journal[4].Seq = 0 }, api.ErrImage, 4},
	})
}

func TestP2_13RestoreKeepsNothing(t *testing.T) {
	img := late(90)
	want := twin(img)
	l := restored(t, img)
	play(t, l, marked(1), move(1, 2, 3, api.OK), pay(4, 1, 6, api.OK), undo(1, api.OK))
	if !reflect.DeepEqual(img, want) {
		t.Errorf("Restore or the ledger changed the image to %v", img)
	}
	scribble(&img)
	isImage(t, "the image was written over", l, want)
}
