package xfer

import "quorum/api"

// stand is where a fetch stands. It is given a chunk that is well formed: if it keeps that, it answers where the fetch stands then, else nil.
type stand func(f *Fetcher, m api.Msg) stand

// waiting has a goal and no chunk yet: the first one says how many there are, and their root.
func waiting(f *Fetcher, m api.Msg) stand {
	if m.Slot == f.state.Goal && m.Index == 0 {
		return f.begin(m)
	}
	return f.overtaken(m)
}

// taking has some of the chunks: the next one must be of the same snapshot.
func taking(f *Fetcher, m api.Msg) stand {
	if m.Slot == f.state.Goal && m.Index == f.next() && m.Count == f.state.Count && m.Root == f.state.Root {
		return f.join(m.Data)
	}
	return f.overtaken(m)
}

// complete has them all: only another snapshot may still come.
func complete(f *Fetcher, m api.Msg) stand { return f.overtaken(m) }

// overtaken goes over to a later snapshot, of which the first chunk has come: the supplier may not have the one of the goal any more.
func (f *Fetcher) overtaken(m api.Msg) stand {
	if m.Slot > f.state.Goal && m.Index == 0 {
		return f.begin(m)
	}
	return nil
}

// begin has a first chunk, and nothing of what was there.
func (f *Fetcher) begin(m api.Msg) stand {
	f.state = api.FetcherState{Goal: m.Slot, Count: m.Count, Root: m.Root}
	return f.join(m.Data)
}

// join keeps the next chunk.
func (f *Fetcher) join(data []byte) stand {
	f.state.Chunks = append(f.state.Chunks, twin(data))
	if f.whole() {
		return complete
	}
	return taking
}
