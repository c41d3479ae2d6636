package wire

import "quorum/api"

// EncodeMsg lays a message down as a datagram (P1.6).
func EncodeMsg(m api.Msg) ([]byte, error) {
	check := fieldCheck{msg: m}
	listed := messageFields(m.Kind, &check)
	if listed == nil {
		return nil, refusal(0, api.ErrWireKind)
	}
	if at, why := check.first(listed); why != api.OK {
		return nil, refusal(at, why)
	}
	w := newFieldWriter(m)
	body, err := w.write(messageFields(m.Kind, w))
	if err != nil {
		return nil, err
	}
	return Frame(uint8(m.Kind), body)
}

// EncodeBatch lays a batch down (P1.8).
func EncodeBatch(b api.Batch) ([]byte, error) {
	if at, why := batchFault(b); why != api.OK {
		return nil, refusal(at, why)
	}
	w := NewWriter(api.MaxFrame)
	layBatch(w, b)
	return w.Bytes()
}

// EncodeRecord lays a record of the log down (P1.9).
func EncodeRecord(r api.Record) ([]byte, error) {
	m := api.Msg{Bal: r.Bal, Slot: r.Slot, Batch: r.Batch, Data: r.Data}
	check := fieldCheck{msg: m}
	listed := recordFields(r.Kind, &check)
	if listed == nil {
		return nil, refusal(0, api.ErrWireKind)
	}
	if field, why := check.first(listed); why != api.OK {
		return nil, refusal(recordPlace(field), why)
	}
	w := newFieldWriter(m)
	w.U8(uint8(r.Kind))
	return w.write(recordFields(r.Kind, w))
}

// recordPlace turns the number of a message's field into that of the same field of a record, which has fewer.
func recordPlace(field int) int {
	switch field {
	case fieldBatch:
		return 3
	case fieldData:
		return 4
	}
	return field
}

// fieldWriter writes the fields of a message, or those that a record shares with it. They have been looked over.
type fieldWriter struct {
	Writer
	msg api.Msg
}

func newFieldWriter(m api.Msg) *fieldWriter {
	return &fieldWriter{Writer: *NewWriter(api.MaxFrame), msg: m}
}

func (w *fieldWriter) write(listed []func()) ([]byte, error) {
	for _, lay := range listed {
		lay()
	}
	return w.Bytes()
}

func (w *fieldWriter) ballot() { layBallot(&w.Writer, w.msg.Bal) }

func (w *fieldWriter) slot() { w.Num(w.msg.Slot) }

func (w *fieldWriter) low() { w.Num(w.msg.Low) }

func (w *fieldWriter) votes() {
	w.Count(len(w.msg.Votes), api.MaxWindow)
	for _, v := range w.msg.Votes {
		w.Num(v.Slot)
		layBallot(&w.Writer, v.Bal)
		layBatch(&w.Writer, v.Batch)
	}
}

func (w *fieldWriter) batch() { layBatch(&w.Writer, w.msg.Batch) }

func (w *fieldWriter) seq() { w.Num(w.msg.Seq) }

func (w *fieldWriter) stamp() { w.Num(w.msg.Stamp) }

func (w *fieldWriter) outcome() { w.Num(uint64(w.msg.Code)) }

func (w *fieldWriter) command() { w.Blob(w.msg.Cmd, api.MaxCmd) }

func (w *fieldWriter) result() { w.Blob(w.msg.Data, api.MaxData) }

func (w *fieldWriter) suspect() { w.Flag(w.msg.Suspect) }

func (w *fieldWriter) index() { w.Num(w.msg.Index) }

func (w *fieldWriter) total() { w.Num(w.msg.Count) }

func (w *fieldWriter) root() { layHash(&w.Writer, w.msg.Root) }

func (w *fieldWriter) chunk() { w.Blob(w.msg.Data, api.ChunkSize) }

func (w *fieldWriter) path() {
	w.Count(len(w.msg.Path), api.MaxPath)
	for _, h := range w.msg.Path {
		layHash(&w.Writer, h)
	}
}

func (w *fieldWriter) snapshot() { w.Blob(w.msg.Data, api.MaxSnap) }

func layBallot(w *Writer, b api.Ballot) {
	w.Num(b.Num)
	w.U8(uint8(b.Node))
}

func layBatch(w *Writer, b api.Batch) {
	w.Num(b.Stamp)
	w.Count(len(b.Reqs), api.MaxReqs)
	for _, r := range b.Reqs {
		w.Num(r.Client)
		w.Num(r.Seq)
		w.Blob(r.Cmd, api.MaxCmd)
	}
}

func layHash(w *Writer, h api.Hash) {
	for _, c := range h {
		w.U8(c)
	}
}
