package wire

import (
	"math"

	"quorum/api"
)

// hashSize is the number of a hash's bytes.
const hashSize = len(api.Hash{})

// DecodeMsg reads a datagram (P1.7).
func DecodeMsg(b []byte) (api.Msg, error) {
	if at, why := frameFault(b); why != api.OK {
		return api.Msg{}, refusal(at, why)
	}
	// The body is read where it stands, so that places are offsets in the datagram.
	r := &fieldReader{Reader: readerAt(b[:len(b)-4], api.WireHead)}
	kind := api.Kind(b[atKind])
	listed := messageFields(kind, r)
	if listed == nil {
		return api.Msg{}, refusal(atKind, api.ErrWireKind)
	}
	if err := r.read(listed); err != nil {
		return api.Msg{}, err
	}
	r.msg.Kind = kind
	return r.msg, nil
}

// DecodeBatch reads a batch (P1.8).
func DecodeBatch(b []byte) (api.Batch, error) {
	r := readerAt(b, 0)
	batch := readBatch(&r)
	if err := r.End(); err != nil {
		return api.Batch{}, err
	}
	return batch, nil
}

// DecodeRecord reads a record of the log (P1.9).
func DecodeRecord(b []byte) (api.Record, error) {
	r := &fieldReader{Reader: readerAt(b, 0)}
	kind := api.RecKind(r.U8())
	if err := r.Err(); err != nil {
		return api.Record{}, err
	}
	listed := recordFields(kind, r)
	if listed == nil {
		return api.Record{}, refusal(0, api.ErrWireKind)
	}
	if err := r.read(listed); err != nil {
		return api.Record{}, err
	}
	m := r.msg
	return api.Record{Kind: kind, Bal: m.Bal, Slot: m.Slot, Batch: m.Batch, Data: m.Data}, nil
}

// fieldReader reads the fields of a message, or those that a record shares with it.
type fieldReader struct {
	Reader
	msg api.Msg
}

// read goes through the listed fields up to the first at fault, and tells it, or what is left behind them.
func (r *fieldReader) read(listed []func()) error {
reading:
	for _, next := range listed {
		if next(); !r.sound() {
			break reading
		}
	}
	return r.End()
}

func (r *fieldReader) ballot() { r.msg.Bal = readBallot(&r.Reader) }

func (r *fieldReader) slot() { r.msg.Slot = readBound(&r.Reader, 0, api.MaxSlots) }

func (r *fieldReader) low() { r.msg.Low = readBound(&r.Reader, 0, api.MaxSlots) }

func (r *fieldReader) votes() {
	least := r.msg.Low
	for range r.Count(api.MaxWindow) {
		v := readVote(&r.Reader, least)
		r.msg.Votes = append(r.msg.Votes, v)
		least = v.Slot + 1
	}
}

func (r *fieldReader) batch() { r.msg.Batch = readBatch(&r.Reader) }

func (r *fieldReader) seq() { r.msg.Seq = r.Num() }

func (r *fieldReader) stamp() { r.msg.Stamp = readBound(&r.Reader, 0, api.MaxTick) }

func (r *fieldReader) outcome() { r.msg.Code = api.Errno(readBound(&r.Reader, 0, api.MaxCode)) }

func (r *fieldReader) command() { r.msg.Cmd = r.Blob(api.MaxCmd) }

func (r *fieldReader) result() { r.msg.Data = r.Blob(api.MaxData) }

func (r *fieldReader) suspect() { r.msg.Suspect = r.Flag() }

func (r *fieldReader) index() { r.msg.Index = readBound(&r.Reader, 0, api.MaxChunks-1) }

func (r *fieldReader) total() {
	r.msg.Count = readBound(&r.Reader, r.msg.Index+1, api.MaxChunks)
}

func (r *fieldReader) root() { r.msg.Root = readHash(&r.Reader) }

func (r *fieldReader) chunk() {
	at := r.At()
	if r.msg.Data = r.Blob(api.ChunkSize); len(r.msg.Data) == 0 {
		r.fail(at, api.ErrWireField)
	}
}

func (r *fieldReader) path() {
	for range r.Count(api.MaxPath) {
		r.msg.Path = append(r.msg.Path, readHash(&r.Reader))
	}
}

func (r *fieldReader) snapshot() { r.msg.Data = r.Blob(api.MaxSnap) }

// readBound reads a number that lies between two others. (A number that can't be read is at fault already; that fault stays.)
func readBound(r *Reader, least, most uint64) uint64 {
	at := r.At()
	n := r.Num()
	if why := boundFault(n, least, most); why != api.OK {
		r.fail(at, why)
	}
	return n
}

func readBallot(r *Reader) api.Ballot {
	num := readBound(r, 0, api.MaxBallots)
	at := r.At()
	node := int(r.U8())
	if node > maxNode {
		r.fail(at, api.ErrWireField)
	}
	return api.Ballot{Num: num, Node: node}
}

// readVote reads a vote whose slot must be at least that of its place in the list.
func readVote(r *Reader, least uint64) api.Vote {
	at := r.At()
	slot := readBound(r, 0, api.MaxSlots)
	if slot < least {
		r.fail(at, api.ErrWireOrder)
	}
	bal := readBallot(r)
	return api.Vote{Slot: slot, Bal: bal, Batch: readBatch(r)}
}

func readBatch(r *Reader) api.Batch {
	b := api.Batch{Stamp: readBound(r, 0, api.MaxTick)}
	for range r.Count(api.MaxReqs) {
		b.Reqs = append(b.Reqs, readRequest(r))
	}
	return b
}

func readRequest(r *Reader) api.Request {
	client := readBound(r, uint64(api.FirstClient), math.MaxUint64)
	seq := r.Num()
	return api.Request{Client: client, Seq: seq, Cmd: r.Blob(api.MaxCmd)}
}

// readHash reads the bytes of a hash as one field: it is there whole or not at all.
func readHash(r *Reader) api.Hash {
	var h api.Hash
	b, why := bytesAhead(r.rest(), hashSize)
	copy(h[:], b)
	r.step(hashSize, why)
	return h
}
