package cluster

import (
	"sync"

	"quorum/api"
)

// task is something for a host to do; it answers what was seen of it.
type task func(*host) []api.Seen

// desk is where a host gets its tasks, and where it lays what came of them.
type desk struct {
	work chan task
	done chan []api.Seen
}

// crew is the hosts at work, each as a goroutine, while a call lasts.
type crew struct {
	desks []desk
	over  chan struct{} // closed when the call ends
	all   sync.WaitGroup
}

// gather lets the hosts begin to work.
func gather(hosts []*host) *crew {
	w := &crew{over: make(chan struct{})}
	for _, h := range hosts {
		d := desk{work: make(chan task), done: make(chan []api.Seen)}
		w.desks = append(w.desks, d)
		w.all.Add(1)
		go w.serve(h, d)
	}
	return w
}

// serve does a host's tasks until the call ends. The two are never ready at one time: the call ends when no task is left.
func (w *crew) serve(h *host, d desk) {
	defer w.all.Done()
	for {
		select {
		case do := <-d.work:
			d.done <- do(h)
		case <-w.over:
			return
		}
	}
}

// give gives a host a task; back waits until it is done.
func (w *crew) give(node int, do task) { w.desks[node].work <- do }

func (w *crew) back(node int) []api.Seen { return <-w.desks[node].done }

// dismiss ends the work: no goroutine of it is left.
func (w *crew) dismiss() {
	close(w.over)
	w.all.Wait()
}
