package sem

import (
	"sync"
	"sync/atomic"

	"abacus/api"
)

// Free has workers enter and leave so many times each, on goroutines: how often one entered, and whether there were never more inside than places.
func Free(places, workers, rounds int) (int, bool, api.Errno) {
	s, why := New(places)
	if why != api.OK {
		return 0, false, why
	}
	if workers < 0 || workers > api.MaxWorkers || rounds < 0 || rounds > api.MaxCells {
		return 0, false, api.ErrRange
	}
	h := newHall(s, workers)
	var all sync.WaitGroup
	for n := range h.guests {
		all.Add(1)
		go func() {
			defer all.Done()
			for range rounds {
				h.visit(&h.guests[n])
			}
		}()
	}
	all.Wait()
	return int(h.entered.Load()), !h.crowded.Load(), api.OK
}

// hall is a semaphore, and those who go in and out.
type hall struct {
	sem     *Sem
	guests  []guest
	entered atomic.Int64
	inside  atomic.Int64
	crowded atomic.Bool // there were more inside than places
}

// guest is one who goes in and out: the ticket that was drawn last, and a channel by which who serves it calls.
type guest struct {
	ticket atomic.Uint64 // and 1, so that 0 is none
	called chan struct{}
}

func newHall(s *Sem, workers int) *hall {
	h := &hall{sem: s, guests: make([]guest, workers)}
	for n := range h.guests {
		h.guests[n].called = make(chan struct{}, 1)
	}
	return h
}

// visit enters and leaves once. Who is counted as inside has entered, and has not begun to leave.
func (h *hall) visit(g *guest) {
	h.enter(g)
	h.entered.Add(1)
	if h.inside.Add(1) > int64(h.sem.places) {
		h.crowded.Store(true)
	}
	h.inside.Add(-1)
	h.leave()
}

// enter draws a ticket, and looks whether it is served each time that somebody calls. The ticket is told ahead of the first look: so who serves it behind a look finds whom to call.
func (h *hall) enter(g *guest) {
	p, _ := h.sem.Start(api.SemEnter)
	did, _ := p.Step()
	g.ticket.Store(did.Saw + 1)
	for {
		if _, ended := p.Step(); ended {
			return
		}
		<-g.called
	}
}

// leave gives the place back, and calls the one whose ticket is served by it.
func (h *hall) leave() {
	gave, _ := h.sem.do(api.SemLeave)
	last := h.sem.served(gave) // the ticket, and 1
	for n := range h.guests {
		if g := &h.guests[n]; g.ticket.Load() == last {
			g.call()
		}
	}
}

// call has the guest look again; one who was called, and has not looked since, will look anyway.
func (g *guest) call() {
	select {
	case g.called <- struct{}{}:
	default:
	}
}
