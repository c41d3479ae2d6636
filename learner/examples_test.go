package learner_test

import "testing"

// The chapter's table of examples, row by row.
func TestExamples(t *testing.T) {
	l := made(t)
	b, c := batchB(), batchC()

	takes(t, "the first", l, 0, accept(bal(1, 0), 0, b))
	isOpen(t, "one of three", l, 0)
	leaves(t, "once more", l, 0, accept(bal(1, 0), 0, b))
	leaves(t, "another batch under the same ballot", l, 1, accept(bal(1, 0), 0, c))
	takes(t, "the second", l, 1, accept(bal(1, 0), 0, b))
	isDecided(t, "two of three", l, 0, b)
	leaves(t, "it is done", l, 2, accept(bal(1, 0), 0, b))
	leaves(t, "it is done", l, 2, accept(bal(2, 1), 0, c))

	takes(t, "slot 1", l, 0, accept(bal(1, 0), 1, b))
	takes(t, "slot 1, a higher ballot", l, 1, accept(bal(2, 1), 1, c))
	leaves(t, "slot 1, the lower ballot", l, 2, accept(bal(1, 0), 1, b))
	isState(t, "slot 1", l, state(0, tally(0, bal(1, 0), 3, b, true), tally(1, bal(2, 1), 2, c, false)))

	leaves(t, "no ballot", l, 0, accept(bal(0, 0), 2, b))
	leaves(t, "no replica", l, 3, accept(bal(1, 0), 2, b))
	leaves(t, "too far ahead", l, 0, accept(bal(1, 0), 16, b))

	l.Forget(1)
	takes(t, "not too far any more", l, 0, accept(bal(1, 0), 16, b))
	isOpen(t, "forgotten", l, 0)
	leaves(t, "forgotten", l, 1, accept(bal(1, 0), 0, b))
	isState(t, "at the end", l, state(1, tally(1, bal(2, 1), 2, c, false), tally(16, bal(1, 0), 1, b, false)))
}
