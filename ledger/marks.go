package ledger

import (
	"slices"

	"quorum/api"
)

// change is one thing that was done behind a mark; back makes it undone, if all that came later is undone already.
type change struct{ back func() }

// savepoints are the marks that are set, outermost first, each as the number of changes that were made ahead of it; and the changes behind the outermost.
type savepoints struct {
	marks   []int
	changes []change
}

// note keeps what takes a change back, while some mark could still ask for it.
func (s *savepoints) note(back func()) {
	if len(s.marks) > 0 {
		s.changes = append(s.changes, change{back})
	}
}

// takeBack undoes all changes behind the first n, the last one first.
func (s *savepoints) takeBack(n int) {
	for _, c := range slices.Backward(s.changes[n:]) {
		c.back()
	}
	s.changes = slices.Delete(s.changes, n, len(s.changes))
}

// unset lets go of a mark and of all inside it. Without a mark no change can be asked for.
func (s *savepoints) unset(mark int) {
	s.marks = s.marks[:mark-1]
	if len(s.marks) == 0 {
		s.changes = nil
	}
}

// Mark sets a savepoint (P2.8).
func (l *Ledger) Mark() (int, api.Errno) {
	if !l.made() {
		return 0, api.ErrZero
	}
	s := &l.saved
	if len(s.marks) == api.MaxMarks {
		return 0, api.ErrLedgerMark
	}
	s.marks = append(s.marks, len(s.changes))
	return len(s.marks), api.OK
}

// Undo takes back what was changed behind a mark (P2.8).
func (l *Ledger) Undo(mark int) api.Errno {
	if why := l.markFault(mark); why != api.OK {
		return why
	}
	l.saved.takeBack(l.saved.marks[mark-1])
	l.saved.unset(mark)
	return api.OK
}

// Keep lets go of a mark (P2.8).
func (l *Ledger) Keep(mark int) api.Errno {
	if why := l.markFault(mark); why != api.OK {
		return why
	}
	l.saved.unset(mark)
	return api.OK
}

func (l *Ledger) markFault(mark int) api.Errno {
	switch {
	case !l.made():
		return api.ErrZero
	case mark < 1 || mark > len(l.saved.marks):
		return api.ErrLedgerMark
	}
	return api.OK
}
