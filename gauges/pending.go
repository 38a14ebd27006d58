package gauges

import (
	"math"

	"abacus/api"
	"abacus/cells"
)

// Pending is an operation under way.
type Pending struct {
	cell   *cells.Cells
	op     api.GaugeOp
	saw    uint64 // the bits that were loaded last
	put    uint64 // the bits to put where those are
	next   func(p *Pending) api.Did
	answer float64
}

// Start begins an operation.
func (g *Gauge) Start(op api.GaugeOp) (*Pending, api.Errno) {
	if g == nil {
		return nil, api.ErrNil
	}
	p := &Pending{cell: g.cell, op: op}
	switch op.Kind {
	case api.GaugeGet:
		if op.X != 0 {
			return nil, api.ErrAct
		}
		p.next = load
	case api.GaugeSet:
		p.next = store
	case api.GaugeAdd, api.GaugeMax, api.GaugeMin:
		p.next = load
	default:
		return nil, api.ErrAct
	}
	return p, api.OK
}

// Step does the next action: true: the operation has ended.
func (p *Pending) Step() (api.Did, bool) {
	if p.Done() {
		return api.Did{}, true
	}
	did := p.next(p)
	return did, p.Done()
}

// Done tells whether the operation has ended: it has no next action then.
func (p *Pending) Done() bool {
	return p == nil || p.next == nil
}

// Answer is what the operation answers, when it has ended.
func (p *Pending) Answer() float64 {
	if p == nil {
		return 0
	}
	return p.answer
}

func load(p *Pending) api.Did {
	did, _ := p.cell.Do(api.Act{Kind: api.ActLoad})
	x, puts := p.wants(math.Float64frombits(did.Saw))
	if !puts {
		p.end(did.Saw)
		return did
	}
	p.saw, p.put = did.Saw, Bits(x)
	p.next = swap
	return did
}

// swap puts what the operation wants, if the cell has what was loaded as yet; else all begins anew, as what it wants may be another thing by now.
func swap(p *Pending) api.Did {
	did, _ := p.cell.Do(api.Act{Kind: api.ActCas, Old: p.saw, New: p.put})
	if did.Ok {
		p.end(p.put)
	} else {
		p.next = load
	}
	return did
}

func store(p *Pending) api.Did {
	did, _ := p.cell.Do(api.Act{Kind: api.ActStore, New: Bits(p.op.X)})
	p.end(did.Put)
	return did
}

// end ends the operation; it answers the float of the bits.
func (p *Pending) end(answer uint64) {
	p.answer = math.Float64frombits(answer)
	p.next = nil
}

// wants is the float that the operation puts where v is, and whether it puts one.
func (p *Pending) wants(v float64) (float64, bool) {
	x := p.op.X
	switch p.op.Kind {
	case api.GaugeAdd:
		return v + x, true
	case api.GaugeMax:
		return x, Above(x, v)
	case api.GaugeMin:
		// What is no number stands below all, but is not what a least one is looked for by.
		return x, !math.IsNaN(x) && (math.IsNaN(v) || Above(v, x))
	}
	return v, false
}
