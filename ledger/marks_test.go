package ledger_test

import (
	"math"
	"testing"

	"quorum/api"
)

func pair() []api.Account {
	return []api.Account{{ID: 1, Owner: 300, Balance: 100, Cap: 200}, {ID: 2, Owner: 301, Cap: 50}}
}

func TestP2_8MarksAreNumbered(t *testing.T) {
	l := begun(t, pair()...)
	was := l.Image()
	for i := 1; i <= 16; i++ {
		play(t, l, marked(i))
	}
	if n, why := l.Mark(); n != 0 || why != api.ErrLedgerMark {
		t.Errorf("the 17th mark: %d, %d", n, why)
	}
	play(t, l, undo(17, api.ErrLedgerMark), keep(17, api.ErrLedgerMark), undo(16, api.OK), marked(16), keep(10, api.OK), marked(10), undo(4, api.OK), undo(4, api.ErrLedgerMark), marked(4), keep(1, api.OK), marked(1))
	isImage(t, "marks, Undo and Keep make no lines", l, was)
}

func TestP2_8NoSuchMark(t *testing.T) {
	l := begun(t, pair()...)
	for _, n := range []int{math.MinInt, -1, 0, 1, 2, 16, math.MaxInt} {
		play(t, l, undo(n, api.ErrLedgerMark), keep(n, api.ErrLedgerMark))
	}
	play(t, l, marked(1), move(1, 2, 3, api.OK), marked(2), move(1, 2, 3, api.OK))
	for _, n := range []int{math.MinInt, -1, 0, 3, 16, math.MaxInt} {
		play(t, l, undo(n, api.ErrLedgerMark), keep(n, api.ErrLedgerMark))
	}
	play(t, l, keep(2, api.OK), undo(2, api.ErrLedgerMark), undo(1, api.OK), undo(1, api.ErrLedgerMark), keep(1, api.ErrLedgerMark))
	isImage(t, "all was taken back", l, begun(t, pair()...).Image())
}

// Every kind of change is taken back, also where one thing was changed several times.
func TestP2_8UndoTakesBackEveryKind(t *testing.T) {
	l := begun(t, append(pair(), api.Account{ID: 3, Owner: 9, Cap: 7})...)
	play(t, l, hold(4, 1, 30, api.OK), hold(5, 1, 10, api.OK), move(1, 2, 2, api.OK))
	was := l.Image()
	changes := []step{
		create(6, 300, 10, api.OK),
		closed(3, api.OK),
		move(1, 2, 5, api.OK),
		hold(7, 1, 8, api.OK),
		pay(4, 2, 3, api.OK),
		pay(5, 1, 10, api.OK),
		settle(4, api.OK, api.Share{To: 2, Amount: 7}, api.Share{To: 1, Amount: 20}),
	}
	later := []step{
		closed(6, api.OK),
		create(3, 10, 8, api.OK),
		move(2, 3, 5, api.OK),
		settle(7, api.OK, api.Share{To: 1, Amount: 8}),
		hold(4, 2, 1, api.OK),
		hold(5, 2, 2, api.OK),
		pay(4, 1, 1, api.OK),
	}
	for _, c := range changes[:6] {
		play(t, l, marked(1), c, undo(1, api.OK))
		isImage(t, c.what+" was taken back", l, was)
	}
	play(t, l, marked(1))
	play(t, l, changes...)
	middle := l.Image()
	play(t, l, marked(2))
	play(t, l, later...)
	play(t, l, undo(2, api.OK))
	isImage(t, "the inner mark", l, middle)
	play(t, l, later...)
	play(t, l, undo(1, api.OK))
	isImage(t, "the outer mark", l, was)
	play(t, l, changes...)
	isImage(t, "done again, without a mark", l, middle)
}

func TestP2_8UndoOfAnOuterMark(t *testing.T) {
	l := begun(t, pair()...)
	play(t, l, marked(1), move(1, 2, 1, api.OK))
	was := l.Image()
	play(t, l, marked(2), move(1, 2, 2, api.OK), marked(3), move(1, 2, 4, api.OK), marked(4), undo(2, api.OK))
	isImage(t, "Undo(2) of 4", l, was)
	play(t, l, undo(2, api.ErrLedgerMark), marked(2), move(2, 1, 1, api.OK), undo(1, api.OK))
	isImage(t, "Undo(1)", l, begun(t, pair()...).Image())
}

func TestP2_8Keep(t *testing.T) {
	l := begun(t, pair()...)
	was := l.Image()
	play(t, l, marked(1), move(1, 2, 1, api.OK), marked(2), move(1, 2, 2, api.OK), marked(3), move(1, 2, 4, api.OK))
	done := l.Image()
	play(t, l, keep(2, api.OK), undo(2, api.ErrLedgerMark), keep(3, api.ErrLedgerMark))
	isImage(t, "Keep(2)", l, done)
	play(t, l, marked(2), move(1, 2, 8, api.OK), undo(2, api.OK))
	isImage(t, "what was kept stays behind Undo of a later mark", l, done)
	play(t, l, undo(1, api.OK))
	isImage(t, "a mark outside takes back what was kept", l, was)
	play(t, l, marked(1), move(1, 2, 1, api.OK), keep(1, api.OK), marked(1), move(1, 2, 6, api.OK), undo(1, api.OK))
	if a, _ := l.Account(2); a.Balance != 1 {
		t.Errorf("what was kept with no mark outside was taken back: %v", a)
	}
}

// The lines that fell out come back, however many were written since.
func TestP2_8UndoBringsLinesBack(t *testing.T) {
	for _, ahead := range []int{0, 1, 40, 63, 64, 65, 150} {
		for _, behind := range []int{1, 40, 63, 64, 65, 200} {
			l := begun(t, pair()...)
			shift := func(n int) {
				for i := range n {
					if i%2 == 0 {
						play(t, l, move(1, 2, uint64(i)%7+1, api.OK))
					} else {
						play(t, l, move(2, 1, uint64(i-1)%7+1, api.OK))
					}
				}
			}
			shift(ahead)
			was := l.Image()
			play(t, l, marked(1))
			shift(behind)
			if next := l.Image().Next; next != uint64(1+ahead+behind) {
				t.Errorf("Next is %d behind %d lines", next, ahead+behind)
			}
			play(t, l, undo(1, api.OK))
			isImage(t, "Undo", l, was)
		}
	}
}
