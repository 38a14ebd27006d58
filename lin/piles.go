package lin

import (
	"slices"
	"strings"

	"abacus/api"
)

// pile is what is known of the calls of a queue or a stack.
type pile struct {
	*history
	stack    bool
	size     int
	own      set
	givers   [codes]set             // of each code those that put it, or may
	takers   [codes]set             // of each code those that were told it
	giving   set                    // all that put something, or may
	told     set                    // all that were told something
	wild     set                    // those that may take something, and have not ended
	bare     set                    // those that found nothing
	crowded  set                    // those that found no room
	behind   []set                  // of each call those that it comes ahead of
	circular bool                   // a call would have to come ahead of itself
	counts   func(x situation) bool // whether there is an order, as far as how many there are goes
}

// codes is how many codes there are at most.
const codes = api.MaxCalls + 1

func newPile(h *history, m api.Model, own set) *pile {
	p := &pile{history: h, stack: m.Kind == api.ModelStack, size: m.Size, own: own}
	for i := range own.numbers() {
		p.note(i)
	}
	counted := h.counted()
	p.counts = counted.seeker(always, counted.choices)
	p.derive()
	return p
}

func (p *pile) note(i int) {
	c := p.calls[i]
	switch {
	case puts(c) && p.alters.has(i):
		p.giving |= only(i)
		p.givers[c.Arg] |= only(i)
	case puts(c):
		p.crowded |= only(i)
	case !p.ended.has(i):
		p.wild |= only(i)
	case c.Ok:
		p.told |= only(i)
		p.takers[c.Got] |= only(i)
	default:
		p.bare |= only(i)
	}
}

// counted is the history without values: queues and stacks are places that are held.
func (h *history) counted() *history {
	c := *h
	c.calls = slices.Clone(h.calls)
	for i, call := range h.calls {
		call.Kind, call.Arg, call.Got = api.CallLeave, 0, 0
		if puts(h.calls[i]) {
			call.Kind = api.CallTry
		}
		c.calls[i] = call
	}
	return &c
}

// sure is the call that takes what has a code, if just one was told it, and it is there just once, or will be.
func (p *pile) sure(x situation, code byte) (int, bool) {
	takers := x.left & p.takers[code]
	if takers.size() != 1 {
		return 0, false
	}
	return takers.least(), count(x.list, code)+(x.left&p.givers[code]).size() == 1
}

func count(list string, code byte) int {
	return strings.Count(list, string([]byte{code}))
}

// choices are the situations behind each call that can come now: behind just one or two, if nothing can be lost by that. Who takes is looked at first, as what is taken soon is in nobody's way.
func (p *pile) choices(x situation) []situation {
	if next, found := p.hurry(x); found {
		return []situation{next}
	}
	var taken, put []situation
	for _, i := range p.turns(x) {
		next, _ := p.step(x, i)
		if p.giving.has(i) {
			put = append(put, next)
		} else {
			taken = append(taken, next)
		}
	}
	return append(taken, put...)
}

// hurry is the situation behind one who is sure to take what leaves next; or behind one who puts something where it leaves next, and one who is sure to take that. That there is less then is no harm, if nobody must find that there is no room.
func (p *pile) hurry(x situation) (situation, bool) {
	if x.left&p.crowded != 0 {
		return x, false
	}
	if next, found := p.handOut(x); found {
		return next, true
	}
	if len(x.list) == p.size || len(x.list) > 0 && !p.stack {
		return x, false
	}
	for i := range p.free(x.left, p.giving).numbers() {
		next, _ := p.step(x, i)
		if next, found := p.handOut(next); found {
			return next, true
		}
	}
	return x, false
}

// handOut is the situation behind one who can come now, and is sure to take what leaves next.
func (p *pile) handOut(x situation) (situation, bool) {
	if x.list == "" {
		return x, false
	}
	next := x.list[0]
	if p.stack {
		next = x.list[len(x.list)-1]
	}
	i, sure := p.sure(x, next)
	if !sure || p.free(x.left, only(i)) == 0 {
		return x, false
	}
	return p.step(x, i)
}
