package wire

import "quorum/api"

// The numbers of a message's fields: their places in api.Msg.
const (
	fieldKind = iota
	fieldBal
	fieldSlot
	fieldLow
	fieldVotes
	fieldBatch
	fieldSeq
	fieldStamp
	fieldCode
	fieldCmd
	fieldData
	fieldSuspect
	fieldIndex
	fieldCount
	fieldRoot
	fieldPath
	fieldsInAll
)

// fieldSet has something to do at each field that a body may have: to look it over, to write it, or to read it. Data is three fields, as its bounds are those of its kind.
type fieldSet interface {
	ballot()
	slot()
	low()
	votes()
	batch()
	seq()
	stamp()
	outcome()
	command()
	result()
	suspect()
	index()
	total()
	root()
	chunk()
	path()
	snapshot()
}

// messageFields lists the fields of a message's body in their order; nil, if there is no such kind. What checks, writes and reads goes by this one list, so that they can't differ.
func messageFields(kind api.Kind, f fieldSet) []func() {
	switch kind {
	case api.KRequest:
		return []func(){f.seq, f.command}
	case api.KReply:
		return []func(){f.seq, f.stamp, f.outcome, f.result}
	case api.KPrepare:
		return []func(){f.ballot}
	case api.KPromise:
		return []func(){f.ballot, f.low, f.votes}
	case api.KLead:
		return []func(){f.ballot, f.low}
	case api.KPropose, api.KAccept:
		return []func(){f.ballot, f.slot, f.batch}
	case api.KBeat:
		return []func(){f.ballot, f.slot, f.suspect}
	case api.KWant:
		return []func(){f.slot, f.index}
	case api.KGive:
		return []func(){f.slot, f.index, f.total, f.root, f.chunk, f.path}
	}
	return nil
}

// recordFields does the same for a record behind its kind.
func recordFields(kind api.RecKind, f fieldSet) []func() {
	switch kind {
	case api.RPromise, api.RStart:
		return []func(){f.ballot}
	case api.RVote:
		return []func(){f.ballot, f.slot, f.batch}
	case api.RLow:
		return []func(){f.slot}
	case api.RCheck:
		return []func(){f.slot, f.snapshot}
	}
	return nil
}
