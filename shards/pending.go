package shards

import (
	"abacus/api"
	"abacus/cells"
)

// Pending is an operation that is done action by action.
type Pending struct {
	cells *cells.Cells
	act   api.Act // its next action
	next  func(p *Pending) api.Did
	sum   uint64 // its answer, of the cells that it has been to
}

// Start is an operation ahead of its first action.
func (c *Counter) Start(op api.ShardOp) (*Pending, api.Errno) {
	switch {
	case c == nil:
		return nil, api.ErrNil
	case !right(op):
		return nil, api.ErrRange
	}
	p := &Pending{cells: c.cells}
	own := op.Worker % c.Len()
	switch op.Kind {
	case api.ShardAdd:
		p.act, p.next = api.Act{Kind: api.ActAdd, Cell: own, New: op.By}, add
	case api.ShardRead:
		p.act, p.next = api.Act{Kind: api.ActLoad, Cell: own}, read
	case api.ShardSum:
		p.act, p.next = api.Act{Kind: api.ActLoad}, gather
	case api.ShardTake:
		p.act, p.next = api.Act{Kind: api.ActSwap}, gather
	}
	return p, api.OK
}

func right(op api.ShardOp) bool {
	switch op.Kind {
	case api.ShardAdd:
		return op.Worker >= 0
	case api.ShardRead:
		return op.Worker >= 0 && op.By == 0
	case api.ShardSum, api.ShardTake:
		return op.Worker == 0 && op.By == 0
	}
	return false
}

// Step does one action: true: it was the last one.
func (p *Pending) Step() (api.Did, bool) {
	if p.Done() {
		return api.Did{}, true
	}
	did := p.next(p)
	return did, p.Done()
}

// Done tells whether the last action was done: there is no next one then.
func (p *Pending) Done() bool {
	return p == nil || p.next == nil
}

// Answer is what the operation answers, when its last action was done.
func (p *Pending) Answer() uint64 {
	if p == nil || p.next != nil {
		return 0
	}
	return p.sum
}

func add(p *Pending) api.Did {
	did, _ := p.cells.Do(p.act)
	p.sum = did.Put
	p.next = nil
	return did
}

func read(p *Pending) api.Did {
	did, _ := p.cells.Do(p.act)
	p.sum = did.Saw
	p.next = nil
	return did
}

// gather adds what one cell had, and goes on to the next cell.
func gather(p *Pending) api.Did {
	did, _ := p.cells.Do(p.act)
	p.sum += did.Saw
	p.act.Cell++
	if p.act.Cell == p.cells.Len() {
		p.next = nil
	}
	return did
}
