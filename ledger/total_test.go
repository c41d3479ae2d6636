package ledger_test

import (
	"maps"
	"math/big"
	"slices"
	"testing"

	"quorum/api"
	"quorum/ledger"
)

// book is the ledger told once more, as plainly as can be: every line ever written, and a whole copy for each mark.
type book struct {
	total    uint64
	next     uint64
	accounts map[uint64]api.Account
	holds    map[uint64]api.Hold
	lines    []api.Entry
	marks    []book
}

func bookOf(img api.LedgerImage) *book {
	b := &book{total: img.Total, next: img.Next, accounts: map[uint64]api.Account{}, holds: map[uint64]api.Hold{}, lines: slices.Clone(img.Journal)}
	for _, a := range img.Accounts {
		b.accounts[a.ID] = a
	}
	for _, h := range img.Holds {
		b.holds[h.ID] = h
	}
	return b
}

func (b *book) image() api.LedgerImage {
	img := api.LedgerImage{Total: b.total, Next: b.next}
	for _, id := range slices.Sorted(maps.Keys(b.accounts)) {
		img.Accounts = append(img.Accounts, b.accounts[id])
	}
	for _, id := range slices.Sorted(maps.Keys(b.holds)) {
		img.Holds = append(img.Holds, b.holds[id])
	}
	if len(b.lines) > 0 {
		img.Journal = slices.Clone(b.lines[max(0, len(b.lines)-64):])
	}
	return img
}

func (b *book) line(kind int, from, to, amount uint64) {
	b.lines = append(b.lines, api.Entry{Seq: b.next, Kind: kind, From: from, To: to, Amount: amount})
	b.next++
}

func (b *book) full(n int) bool { return b.next+uint64(n) > 1<<62 }

// pay changes a balance by what is paid in and out.
func (b *book) pay(id, in, out uint64) {
	a := b.accounts[id]
	a.Balance += in - out
	b.accounts[id] = a
}

// above tells whether an exact sum is above a bound.
func above(bound uint64, parts ...uint64) bool {
	return exact(parts...).Cmp(new(big.Int).SetUint64(bound)) > 0
}

func exact(parts ...uint64) *big.Int {
	sum := new(big.Int)
	for _, p := range parts {
		sum.Add(sum, new(big.Int).SetUint64(p))
	}
	return sum
}

// reason is a refusal that may apply.
type reason struct {
	holds bool
	why   api.Errno
}

// first gives the first reason that applies.
func first(reasons ...reason) api.Errno {
	for _, r := range reasons {
		if r.holds {
			return r.why
		}
	}
	return api.OK
}

func (b *book) create(id, owner, most uint64) api.Errno {
	_, taken := b.accounts[id]
	why := first(reason{id == 0, api.ErrLedgerZero}, reason{taken, api.ErrLedgerTaken}, reason{len(b.accounts) == 64 || b.full(1), api.ErrLedgerFull})
	if why == api.OK {
		b.accounts[id] = api.Account{ID: id, Owner: owner, Cap: most}
		b.line(1, id, 0, most)
	}
	return why
}

func (b *book) close(id uint64) api.Errno {
	a, known := b.accounts[id]
	busy := a.Balance != 0
	for _, h := range b.holds {
		busy = busy || h.From == id
	}
	why := first(reason{id == 0, api.ErrLedgerZero}, reason{!known, api.ErrLedgerUnknown}, reason{busy, api.ErrLedgerBusy}, reason{b.full(1), api.ErrLedgerFull})
	if why == api.OK {
		delete(b.accounts, id)
		b.line(2, id, 0, 0)
	}
	return why
}

func (b *book) move(from, to, amount uint64) api.Errno {
	p, known := b.accounts[from]
	q, known2 := b.accounts[to]
	why := first(
		reason{from == 0 || to == 0, api.ErrLedgerZero},
		reason{!known || !known2, api.ErrLedgerUnknown},
		reason{from == to, api.ErrLedgerSame},
		reason{amount == 0, api.ErrLedgerAmount},
		reason{above(p.Balance, amount), api.ErrLedgerFunds},
		reason{above(q.Cap, q.Balance, amount), api.ErrLedgerCap},
		reason{b.full(1), api.ErrLedgerFull})
	if why == api.OK {
		b.pay(from, 0, amount)
		b.pay(to, amount, 0)
		b.line(3, from, to, amount)
	}
	return why
}

func (b *book) hold(id, from, amount uint64) api.Errno {
	_, taken := b.holds[id]
	a, known := b.accounts[from]
	why := first(
		reason{id == 0 || from == 0, api.ErrLedgerZero},
		reason{taken, api.ErrLedgerTaken},
		reason{!known, api.ErrLedgerUnknown},
		reason{amount == 0, api.ErrLedgerAmount},
		reason{above(a.Balance, amount), api.ErrLedgerFunds},
		reason{len(b.holds) == 64 || b.full(1), api.ErrLedgerFull})
	if why == api.OK {
		b.pay(from, 0, amount)
		b.holds[id] = api.Hold{ID: id, From: from, Amount: amount}
		b.line(4, from, id, amount)
	}
	return why
}

func (b *book) payOut(id, to, amount uint64) api.Errno {
	h, known := b.holds[id]
	a, known2 := b.accounts[to]
	why := first(
		reason{id == 0 || to == 0, api.ErrLedgerZero},
		reason{!known || !known2, api.ErrLedgerUnknown},
		reason{amount == 0, api.ErrLedgerAmount},
		reason{above(h.Amount, amount), api.ErrLedgerFunds},
		reason{above(a.Cap, a.Balance, amount), api.ErrLedgerCap},
		reason{b.full(1), api.ErrLedgerFull})
	if why == api.OK {
		h.Amount -= amount
		b.holds[id] = h
		if h.Amount == 0 {
			delete(b.holds, id)
		}
		b.pay(to, amount, 0)
		b.line(5, id, to, amount)
	}
	return why
}

func (b *book) settle(id uint64, shares []api.Share) api.Errno {
	h, known := b.holds[id]
	reasons := []reason{{id == 0, api.ErrLedgerZero}, {!known, api.ErrLedgerUnknown}, {len(shares) == 0 || len(shares) > 16, api.ErrLedgerShares}}
	var all []uint64
	to := map[uint64][]uint64{}
	for _, s := range shares {
		a, known := b.accounts[s.To]
		reasons = append(reasons, reason{s.To == 0, api.ErrLedgerZero}, reason{!known, api.ErrLedgerUnknown}, reason{s.Amount == 0, api.ErrLedgerAmount})
		all = append(all, s.Amount)
		if to[s.To] == nil {
			to[s.To] = []uint64{a.Balance}
		}
		to[s.To] = append(to[s.To], s.Amount)
	}
	reasons = append(reasons, reason{exact(all...).Cmp(exact(h.Amount)) != 0, api.ErrLedgerShares})
	for id, parts := range to {
		reasons = append(reasons, reason{above(b.accounts[id].Cap, parts...), api.ErrLedgerCap})
	}
	why := first(append(reasons, reason{b.full(len(shares)), api.ErrLedgerFull})...)
	if why == api.OK {
		delete(b.holds, id)
		for _, s := range shares {
			b.pay(s.To, s.Amount, 0)
			b.line(5, id, s.To, s.Amount)
		}
	}
	return why
}

func (b *book) mark() (int, api.Errno) {
	if len(b.marks) == 16 {
		return 0, api.ErrLedgerMark
	}
	was := book{total: b.total, next: b.next, accounts: maps.Clone(b.accounts), holds: maps.Clone(b.holds), lines: slices.Clone(b.lines)}
	b.marks = append(b.marks, was)
	return len(b.marks), api.OK
}

func (b *book) undo(mark int) api.Errno {
	if mark < 1 || mark > len(b.marks) {
		return api.ErrLedgerMark
	}
	marks := b.marks[:mark-1]
	*b = b.marks[mark-1]
	b.marks = marks
	return api.OK
}

func (b *book) keep(mark int) api.Errno {
	if mark < 1 || mark > len(b.marks) {
		return api.ErrLedgerMark
	}
	b.marks = b.marks[:mark-1]
	return api.OK
}

// The verbs of a run.
const (
	doCreate = iota
	doClose
	doMove
	doHold
	doPay
	doSettle
	doMark
	doUndo
	doKeep
	verbs
)

// both gives one call to the ledger and to the book.
func both(d *dice, verb int, l *ledger.Ledger, b *book) (got, want api.Errno) {
	x, y, amount := d.id(6), d.id(6), d.amount()
	switch verb {
	case doCreate:
		owner := uint64(d.below(9))
		return l.Create(x, owner, amount), b.create(x, owner, amount)
	case doClose:
		return l.Close(x), b.close(x)
	case doMove:
		return l.Move(x, y, amount), b.move(x, y, amount)
	case doHold:
		return l.Hold(x, y, amount), b.hold(x, y, amount)
	case doPay:
		return l.Pay(x, y, amount), b.payOut(x, y, amount)
	case doSettle:
		shares := d.shares(b.holds[x].Amount)
		return l.Settle(x, shares), b.settle(x, shares)
	case doMark:
		n, got := l.Mark()
		m, want := b.mark()
		if n != m {
			got = -1
		}
		return got, want
	}
	mark := d.below(len(b.marks) + 2)
	if verb == doUndo {
		return l.Undo(mark), b.undo(mark)
	}
	return l.Keep(mark), b.keep(mark)
}

// shares gives shares that are often just the whole amount.
func (d *dice) shares(whole uint64) []api.Share {
	var list []api.Share
	for n := d.below(19); n > 0 && d.below(3) > 0; n-- {
		s := api.Share{To: d.id(6), Amount: d.amount()}
		if s.Amount >= whole && d.below(9) > 0 {
			s.Amount = whole
		}
		whole -= s.Amount
		list = append(list, s)
	}
	if whole > 0 && d.below(4) > 0 {
		list = append(list, api.Share{To: d.id(6), Amount: whole})
	}
	return list
}

// sound holds an image against what must be true of every ledger.
func sound(t *testing.T, img api.LedgerImage, total uint64) {
	t.Helper()
	var money []uint64
	for _, a := range img.Accounts {
		money = append(money, a.Balance)
		if a.Balance > a.Cap {
			t.Errorf("an account above its cap: %v", a)
		}
	}
	for _, h := range img.Holds {
		money = append(money, h.Amount)
		if h.Amount == 0 {
			t.Errorf("a hold of nothing: %v", h)
		}
	}
	if img.Total != total || exact(money...).Cmp(exact(total)) != 0 {
		t.Errorf("the total is %d, the sum %d, it was %d at the beginning", img.Total, exact(money...), total)
	}
}

// beginning gives what a run begins with: poor ones, one that has all the money there can be, and one at the end of its lines.
func beginning(n int) api.LedgerImage {
	switch n % 4 {
	case 0:
		return api.LedgerImage{Total: most, Next: 1, Accounts: []api.Account{{ID: 1, Balance: most - 20, Cap: most}, {ID: 2, Balance: 20, Cap: 40}}}
	case 1:
		return late(1<<62 - 20)
	}
	return api.LedgerImage{Total: 60, Next: 1, Accounts: []api.Account{{ID: 1, Balance: 30, Cap: 60}, {ID: 2, Balance: 20, Cap: 20}, {ID: 5, Balance: 10, Cap: 15}}}
}

// Whatever is called in whatever order, the ledger answers what the book answers, has what the book has, and keeps its total.
func TestP2_12TotalIsKept(t *testing.T) {
	type outcome struct {
		verb int
		why  api.Errno
	}
	seen := map[outcome]int{}
	for run := range 60 {
		d := &dice{uint64(run)}
		img := beginning(run)
		l, b := restored(t, img), bookOf(img)
		for n := range 600 {
			verb := d.below(verbs)
			if verb > doMark && d.below(3) > 0 {
				verb = d.below(doMark) // so that marks pile up, and the journal fills
			}
			got, want := both(d, verb, l, b)
			if got != want {
				t.Fatalf("run %d, call %d: verb %d answers %d, want %d", run, n, verb, got, want)
			}
			seen[outcome{verb, want}]++
			isImage(t, "the ledger and the book", l, b.image())
			sound(t, l.Image(), img.Total)
			if d.below(40) == 0 {
				b.marks = nil
				l = restored(t, b.image())
			}
			if t.Failed() {
				t.Fatalf("run %d, call %d, verb %d", run, n, verb)
			}
		}
	}
	for verb := range verbs {
		if seen[outcome{verb, api.OK}] < 50 {
			t.Errorf("verb %d was done %d times", verb, seen[outcome{verb, api.OK}])
		}
	}
	if len(seen) < 44 {
		t.Errorf("only %d outcomes were seen: %v", len(seen), seen)
	}
}
