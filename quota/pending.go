package quota

import "abacus/api"

// Pending is an operation that is done action by action.
type Pending struct {
	quota  *Quota
	own    int // the cell of what the worker holds
	next   func(p *Pending) api.Did
	saw    uint64 // what the cell had that was looked at last
	hand   uint64 // what is neither in the pool nor with the worker
	passed int    // how many cells a QuotaLeft has been to
	sum    uint64 // what these had
	answer int64
}

// Start is an operation ahead of its first action.
func (q *Quota) Start(op api.QuotaOp) (*Pending, api.Errno) {
	switch {
	case q == nil:
		return nil, api.ErrNil
	case !q.right(op):
		return nil, api.ErrRange
	}
	p := &Pending{quota: q, own: held(op.Worker)}
	switch op.Kind {
	case api.QuotaTake:
		p.next = look
	case api.QuotaBack:
		p.next = empty
	case api.QuotaLeft:
		p.next = gather
	}
	return p, api.OK
}

// Step does one action: true: the operation has ended by it.
func (p *Pending) Step() (api.Did, bool) {
	if p.Done() {
		return api.Did{}, true
	}
	did := p.next(p)
	return did, p.Done()
}

// Done tells whether the operation has ended: it has no next action then.
func (p *Pending) Done() bool {
	return p == nil || p.next == nil
}

// Answer is what the operation answers, when it has ended.
func (p *Pending) Answer() int64 {
	if p == nil {
		return 0
	}
	return p.answer
}

// look looks what the worker holds.
func look(p *Pending) api.Did {
	did := p.act(api.Act{Kind: api.ActLoad, Cell: p.own})
	if did.Saw > 0 {
		p.saw, p.next = did.Saw, spend
	} else {
		p.next = lookAtPool
	}
	return did
}

// spend takes one of what the worker holds, if that is what it was as yet; else all begins anew, as nothing may be held by now.
func spend(p *Pending) api.Did {
	did := p.act(api.Act{Kind: api.ActCas, Cell: p.own, Old: p.saw, New: p.saw - 1})
	if did.Ok {
		p.end(1)
	} else {
		p.next = look
	}
	return did
}

// lookAtPool looks whether there is something to borrow.
func lookAtPool(p *Pending) api.Did {
	did := p.act(api.Act{Kind: api.ActLoad, Cell: pool})
	if did.Saw > 0 {
		p.saw, p.next = did.Saw, borrow
	} else {
		p.end(0)
	}
	return did
}

// borrow takes a batch, or all that the pool has, if that is what it was as yet. One of it is taken at once, the rest is held.
func borrow(p *Pending) api.Did {
	lent := min(p.quota.batch, p.saw)
	did := p.act(api.Act{Kind: api.ActCas, Cell: pool, Old: p.saw, New: p.saw - lent})
	switch {
	case !did.Ok:
		p.next = lookAtPool
	case lent == 1:
		p.end(1)
	default:
		p.hand, p.next = lent-1, hold
	}
	return did
}

func hold(p *Pending) api.Did {
	did := p.act(api.Act{Kind: api.ActAdd, Cell: p.own, New: p.hand})
	p.end(1)
	return did
}

// empty takes all that the worker holds out of its hands.
func empty(p *Pending) api.Did {
	did := p.act(api.Act{Kind: api.ActSwap, Cell: p.own})
	if did.Saw > 0 {
		p.hand, p.next = did.Saw, giveBack
	} else {
		p.end(0)
	}
	return did
}

func giveBack(p *Pending) api.Did {
	did := p.act(api.Act{Kind: api.ActAdd, Cell: pool, New: p.hand})
	p.end(int64(p.hand))
	return did
}

// gather adds what one cell has, and goes on to the next cell.
func gather(p *Pending) api.Did {
	did := p.act(api.Act{Kind: api.ActLoad, Cell: p.passed})
	p.passed++
	p.sum += did.Saw
	if p.passed == p.quota.cells.Len() {
		p.end(int64(p.sum))
	}
	return did
}

func (p *Pending) act(a api.Act) api.Did {
	did, _ := p.quota.cells.Do(a)
	return did
}

func (p *Pending) end(answer int64) {
	p.answer = answer
	p.next = nil
}
