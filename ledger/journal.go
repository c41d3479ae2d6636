package ledger

import "quorum/api"

// journal keeps the last lines in a ring: line s lies at place s modulo MaxJournal, so that a new line lies where the one was that falls out.
type journal struct {
	next uint64
	ring [api.MaxJournal]api.Entry
}

// full tells whether there is no room for n lines. Next is never above MaxLine, so the difference doesn't wrap.
func (j *journal) full(n int) bool { return uint64(n) > api.MaxLine-j.next }

// write adds a line for which there is room, and gives what takes it back.
func (j *journal) write(kind int, from, to, amount uint64) (back func()) {
	seq := j.next
	place := &j.ring[seq%api.MaxJournal]
	fallen := *place
	*place = api.Entry{Seq: seq, Kind: kind, From: from, To: to, Amount: amount}
	j.next++
	return func() { *place, j.next = fallen, seq }
}

// linesAt tells how many lines are kept when the next one has this number, which is 1 or more.
func linesAt(next uint64) int { return int(min(next-1, api.MaxJournal)) }

// lines gives the lines that are kept, oldest first.
func (j *journal) lines() []api.Entry {
	n := linesAt(j.next)
	if n == 0 {
		return nil
	}
	list := make([]api.Entry, 0, n)
	for seq := j.next - uint64(n); seq < j.next; seq++ {
		list = append(list, j.ring[seq%api.MaxJournal])
	}
	return list
}
