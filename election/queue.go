package election

import (
	"slices"

	"quorum/api"
)

// queue is requests in the order in which they were heard.
type queue []api.Request

// supersedes tells whether one of the queue makes r needless: clients number theirs upwards, and an older one no longer counts.
func (q queue) supersedes(r api.Request) bool {
	return slices.ContainsFunc(q, func(k api.Request) bool { return k.Client == r.Client && k.Seq >= r.Seq })
}

// without lets the requests go for which gone holds; the queue itself is used up.
func (q queue) without(gone func(api.Request) bool) queue {
	return slices.DeleteFunc(q, gone)
}

// joined gives the queue with later requests behind it, as many as it has room for; the queue itself is used up.
func (q queue) joined(later queue) queue {
	room := api.MaxWaiting - len(q)
	return append(q, later[:min(room, len(later))]...)
}

// list gives the requests in new memory; nil if there are none.
func (q queue) list() []api.Request {
	var twins []api.Request
	for _, r := range q {
		twins = append(twins, twin(r))
	}
	return twins
}

// twin gives the same request in new memory.
func twin(r api.Request) api.Request {
	r.Cmd = append([]byte(nil), r.Cmd...)
	return r
}

// validRequest tells whether a client may have asked so.
func validRequest(r api.Request) bool {
	return r.Client >= uint64(api.FirstClient) && r.Seq > 0 && len(r.Cmd) <= api.MaxCmd
}
