package once

import (
	"abacus/api"
	"abacus/cells"
)

// Pending is an operation under way.
type Pending struct {
	cells *cells.Cells
	next  func() api.Did
	x     uint64
	own   bool // it was made by this operation
	why   api.Errno
}

// Start begins an operation.
func (c *Cell) Start(op api.OnceOp) (*Pending, api.Errno) {
	switch {
	case c == nil:
		return nil, api.ErrNil
	case op.X != 0 && op.Kind != api.OnceMake:
		return nil, api.ErrAct
	}
	p := &Pending{cells: c.cells}
	switch op.Kind {
	case api.OnceMake:
		p.ask(func() { p.put(op.X) })
	case api.OnceFail:
		p.ask(p.fail)
	case api.OncePeek:
		p.peek()
	default:
		return nil, api.ErrAct
	}
	return p, api.OK
}

// Step does the next action: true: the operation has ended.
func (p *Pending) Step() (api.Did, bool) {
	if p.Done() {
		return api.Did{}, true
	}
	did := p.next()
	return did, p.Done()
}

// Done tells whether the operation has ended: it has no next action then.
func (p *Pending) Done() bool {
	return p == nil || p.next == nil
}

// Answer is the thing, when the operation has ended, and whether it was made by it, or the error with which it ended.
func (p *Pending) Answer() (uint64, bool, api.Errno) {
	if p == nil {
		return 0, false, api.ErrNil
	}
	return p.x, p.own, p.why
}

// ask reads the thing, if it is made. Who finds that nobody makes it, and is the first to say so, goes on with begun; whoever else does not begin, asks again.
func (p *Pending) ask(begun func()) {
	p.load(state, func(saw uint64) {
		switch saw {
		case made:
			p.read()
		case beingMade:
			p.ask(begun)
		default:
			p.begin(begun)
		}
	})
}

func (p *Pending) begin(begun func()) {
	p.act(api.Act{Kind: api.ActCas, Cell: state, Old: notMade, New: beingMade}, func(did api.Did) {
		if did.Ok {
			begun()
		} else {
			p.ask(begun)
		}
	})
}

// put puts the value first, and tells by the state that it is there: so nobody reads it ahead of that.
func (p *Pending) put(x uint64) {
	p.store(value, x, func() {
		p.store(state, made, func() { p.end(x, true, api.OK) })
	})
}

func (p *Pending) fail() {
	p.store(state, notMade, func() { p.end(0, false, api.ErrMake) })
}

func (p *Pending) peek() {
	p.load(state, func(saw uint64) {
		if saw == made {
			p.read()
		} else {
			p.end(0, false, api.ErrNone)
		}
	})
}

func (p *Pending) read() {
	p.load(value, func(saw uint64) { p.end(saw, false, api.OK) })
}

func (p *Pending) load(cell int, then func(saw uint64)) {
	p.act(api.Act{Kind: api.ActLoad, Cell: cell}, func(did api.Did) { then(did.Saw) })
}

func (p *Pending) store(cell int, x uint64, then func()) {
	p.act(api.Act{Kind: api.ActStore, Cell: cell, New: x}, func(api.Did) { then() })
}

// act makes an action the next one; then is handed what it did, and says what comes behind it.
func (p *Pending) act(a api.Act, then func(did api.Did)) {
	p.next = func() api.Did {
		did, _ := p.cells.Do(a)
		then(did)
		return did
	}
}

func (p *Pending) end(x uint64, own bool, why api.Errno) {
	p.x, p.own, p.why = x, own, why
	p.next = nil
}
