package ring

import "abacus/api"

// Pending is an operation under way.
type Pending struct {
	ring   *Ring
	tick   int64  // the one whose cell is next
	last   int64  // the last one of the window
	n      uint64 // what is to be counted
	saw    uint64 // the word that was loaded last
	put    uint64 // the word to put where that is
	next   func(p *Pending) api.Did
	answer uint64
	why    api.Errno
}

// Start begins an operation.
func (r *Ring) Start(op api.RingOp) (*Pending, api.Errno) {
	if r == nil {
		return nil, api.ErrNil
	}
	if why := check(op, r.width); why != api.OK {
		return nil, why
	}
	tick := op.T / r.width
	p := &Pending{ring: r, tick: tick, last: tick, n: op.N}
	switch op.Kind {
	case api.RingAdd:
		p.next = load
	case api.RingSum:
		p.tick, p.next = r.oldest(tick), gather
	}
	return p, api.OK
}

// check tells whether an operation may be, with slots of such a width.
func check(op api.RingOp, width int64) api.Errno {
	switch {
	case op.Kind != api.RingAdd && op.Kind != api.RingSum, op.Kind == api.RingSum && op.N != 0:
		return api.ErrAct
	case op.T < 0, op.T/width > api.MaxTick, op.N > api.MaxTally:
		return api.ErrRange
	}
	return api.OK
}

// Step does the next action: true: the operation has ended.
func (p *Pending) Step() (api.Did, bool) {
	if p.Done() {
		return api.Did{}, true
	}
	did := p.next(p)
	return did, p.Done()
}

// Done tells whether the operation has ended: it has no next action then.
func (p *Pending) Done() bool {
	return p == nil || p.next == nil
}

// Answer is what the operation answers, when it has ended, or the error with which it did.
func (p *Pending) Answer() (uint64, api.Errno) {
	switch {
	case p == nil:
		return 0, api.ErrNil
	case p.next != nil:
		return 0, api.OK
	}
	return p.answer, p.why
}

// load looks whether the cell can count in the tick, and what is to be put then.
func load(p *Pending) api.Did {
	did := p.act(api.ActLoad, 0, 0)
	count := countOf(did.Saw, p.tick) + p.n
	switch {
	case tickOf(did.Saw) > p.tick:
		p.end(0, api.ErrLate)
	case count > api.MaxTally:
		p.end(0, api.ErrFull)
	default:
		p.saw, p.put, p.answer = did.Saw, word(p.tick, count), count
		p.next = swap
	}
	return did
}

// swap puts what is to be put, if the cell has what was loaded as yet; else all begins anew, as the cell may be full, or serve a later tick, by now.
func swap(p *Pending) api.Did {
	did := p.act(api.ActCas, p.saw, p.put)
	if did.Ok {
		p.end(p.answer, api.OK)
	} else {
		p.next = load
	}
	return did
}

// gather adds what was counted in one tick, and goes on to the next one.
func gather(p *Pending) api.Did {
	did := p.act(api.ActLoad, 0, 0)
	p.answer += countOf(did.Saw, p.tick)
	if p.tick == p.last {
		p.end(p.answer, api.OK)
	} else {
		p.tick++
	}
	return did
}

// act does an action on the cell of the tick.
func (p *Pending) act(kind api.ActKind, saw, put uint64) api.Did {
	did, _ := p.ring.cells.Do(api.Act{Kind: kind, Cell: p.ring.cell(p.tick), Old: saw, New: put})
	return did
}

func (p *Pending) end(answer uint64, why api.Errno) {
	p.answer, p.why = answer, why
	p.next = nil
}
