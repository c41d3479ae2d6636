package wire

import "quorum/api"

// maxNode is the greatest number that a replica can have in any configuration.
const maxNode = 2 * api.MaxF

// fieldCheck looks over the fields that a kind uses, and notes of each why it may not be.
type fieldCheck struct {
	msg  api.Msg
	used [fieldsInAll]bool
	why  [fieldsInAll]api.Errno
}

// first looks the listed fields over, and tells the first of all fields that may not be, in the order of api.Msg: those that are not listed must be zero.
func (c *fieldCheck) first(listed []func()) (int, api.Errno) {
	for _, look := range listed {
		look()
	}
	blank := blankFields(c.msg)
	at, why := 0, api.OK
look:
	for field := fieldBal; field < fieldsInAll; field++ {
		switch {
		case c.used[field] && c.why[field] != api.OK:
			at, why = field, c.why[field]
			break look
		case !c.used[field] && !blank[field]:
			at, why = field, api.ErrWireField
			break look
		}
	}
	return at, why
}

// blankFields tells which fields are zero. A list is, if it has no element.
func blankFields(m api.Msg) [fieldsInAll]bool {
	return [fieldsInAll]bool{
		fieldBal:     m.Bal == api.Ballot{},
		fieldSlot:    m.Slot == 0,
		fieldLow:     m.Low == 0,
		fieldVotes:   len(m.Votes) == 0,
		fieldBatch:   m.Batch.Stamp == 0 && len(m.Batch.Reqs) == 0,
		fieldSeq:     m.Seq == 0,
		fieldStamp:   m.Stamp == 0,
		fieldCode:    m.Code == 0,
		fieldCmd:     len(m.Cmd) == 0,
		fieldData:    len(m.Data) == 0,
		fieldSuspect: !m.Suspect,
		fieldIndex:   m.Index == 0,
		fieldCount:   m.Count == 0,
		fieldRoot:    m.Root == api.Hash{},
		fieldPath:    len(m.Path) == 0,
	}
}

func (c *fieldCheck) note(field int, why api.Errno) {
	c.used[field] = true
	c.why[field] = why
}

func (c *fieldCheck) ballot() { c.note(fieldBal, ballotFault(c.msg.Bal)) }

func (c *fieldCheck) slot() { c.note(fieldSlot, boundFault(c.msg.Slot, 0, api.MaxSlots)) }

func (c *fieldCheck) low() { c.note(fieldLow, boundFault(c.msg.Low, 0, api.MaxSlots)) }

func (c *fieldCheck) votes() { c.note(fieldVotes, votesFault(c.msg.Votes, c.msg.Low)) }

func (c *fieldCheck) batch() {
	_, why := batchFault(c.msg.Batch)
	c.note(fieldBatch, why)
}

func (c *fieldCheck) seq() { c.note(fieldSeq, api.OK) }

func (c *fieldCheck) stamp() { c.note(fieldStamp, boundFault(c.msg.Stamp, 0, api.MaxTick)) }

// A code below 0 is far above the greatest one as a number of 64 bits.
func (c *fieldCheck) outcome() { c.note(fieldCode, boundFault(uint64(c.msg.Code), 0, api.MaxCode)) }

func (c *fieldCheck) command() { c.note(fieldCmd, countFault(len(c.msg.Cmd), api.MaxCmd)) }

func (c *fieldCheck) result() { c.note(fieldData, countFault(len(c.msg.Data), api.MaxData)) }

func (c *fieldCheck) suspect() { c.note(fieldSuspect, api.OK) }

func (c *fieldCheck) index() { c.note(fieldIndex, boundFault(c.msg.Index, 0, api.MaxChunks-1)) }

// An Index that no chunk has is noted by itself and told ahead of this, so the sum here is only looked at where it can't run over.
func (c *fieldCheck) total() {
	c.note(fieldCount, boundFault(c.msg.Count, c.msg.Index+1, api.MaxChunks))
}

func (c *fieldCheck) root() { c.note(fieldRoot, api.OK) }

func (c *fieldCheck) chunk() {
	why := countFault(len(c.msg.Data), api.ChunkSize)
	if len(c.msg.Data) == 0 {
		why = api.ErrWireField
	}
	c.note(fieldData, why)
}

func (c *fieldCheck) path() { c.note(fieldPath, countFault(len(c.msg.Path), api.MaxPath)) }

func (c *fieldCheck) snapshot() { c.note(fieldData, countFault(len(c.msg.Data), api.MaxSnap)) }

// boundFault looks whether a number lies between two others.
func boundFault(v, least, most uint64) api.Errno {
	if v < least || v > most {
		return api.ErrWireField
	}
	return api.OK
}

func ballotFault(b api.Ballot) api.Errno {
	if b.Num > api.MaxBallots || b.Node < 0 || b.Node > maxNode {
		return api.ErrWireField
	}
	return api.OK
}

// votesFault looks at the votes of a promise from the first on.
func votesFault(votes []api.Vote, low uint64) api.Errno {
	why := countFault(len(votes), api.MaxWindow)
	if why != api.OK {
		return why
	}
	least := low
look:
	for _, v := range votes {
		if why = voteFault(v, least); why != api.OK {
			break look
		}
		least = v.Slot + 1
	}
	return why
}

// voteFault looks at a vote whose slot must be at least that of its place in the list.
func voteFault(v api.Vote, least uint64) api.Errno {
	switch {
	case v.Slot > api.MaxSlots:
		return api.ErrWireField
	case v.Slot < least:
		return api.ErrWireOrder
	case ballotFault(v.Bal) != api.OK:
		return api.ErrWireField
	}
	_, why := batchFault(v.Batch)
	return why
}

// batchFault tells the first part of a batch that may not be: 0 for its Stamp, 1 for the number of its requests, 2 and on for each of them.
func batchFault(b api.Batch) (int, api.Errno) {
	switch {
	case b.Stamp > api.MaxTick:
		return 0, api.ErrWireField
	case len(b.Reqs) > api.MaxReqs:
		return 1, api.ErrWireLong
	}
	at, why := 0, api.OK
look:
	for i, r := range b.Reqs {
		switch {
		case r.Client < uint64(api.FirstClient):
			at, why = 2+i, api.ErrWireField
			break look
		case len(r.Cmd) > api.MaxCmd:
			at, why = 2+i, api.ErrWireLong
			break look
		}
	}
	return at, why
}
