package snap

import (
	"slices"

	"abacus/api"
	"abacus/cells"
)

// Pending is an operation that is done action by action.
type Pending struct {
	cells    *cells.Cells
	op       api.SnapOp
	next     func(p *Pending) api.Did
	saw      uint64   // the word that a SnapPut loaded last
	ahead    []uint64 // what the collect ahead of this one loaded
	words    []uint64 // what this one has loaded
	collects int
	view     api.View
}

// Start is an operation ahead of its first action.
func (g *Regs) Start(op api.SnapOp) (*Pending, api.Errno) {
	if why := g.check(op); why != api.OK {
		return nil, why
	}
	p := &Pending{cells: g.cells, op: op}
	switch op.Kind {
	case api.SnapPut:
		p.next = load
	case api.SnapGet:
		p.next = get
	case api.SnapScan:
		p.next = collect
	}
	return p, api.OK
}

// Step does one action: true: the operation has ended by it.
func (p *Pending) Step() (api.Did, bool) {
	if p.Done() {
		return api.Did{}, true
	}
	did := p.next(p)
	return did, p.Done()
}

// Done tells whether the operation has ended: it has no next action then.
func (p *Pending) Done() bool {
	return p == nil || p.next == nil
}

// Answer is what the operation answers, when it has ended.
func (p *Pending) Answer() api.View {
	if p == nil {
		return api.View{}
	}
	v := p.view
	v.Regs = slices.Clone(v.Regs)
	return v
}

func load(p *Pending) api.Did {
	did, _ := p.cells.Do(api.Act{Kind: api.ActLoad, Cell: p.op.Reg})
	p.saw = did.Saw
	p.next = swap
	return did
}

// swap puts the value, if the register has what was loaded as yet; else it is loaded anew, as another number comes next by now.
func swap(p *Pending) api.Did {
	did, _ := p.cells.Do(api.Act{Kind: api.ActCas, Cell: p.op.Reg, Old: p.saw, New: after(p.saw, p.op.Value)})
	if did.Ok {
		p.end(api.View{Regs: regsOf([]uint64{did.Put})})
	} else {
		p.next = load
	}
	return did
}

func get(p *Pending) api.Did {
	did, _ := p.cells.Do(api.Act{Kind: api.ActLoad, Cell: p.op.Reg})
	p.end(api.View{Regs: regsOf([]uint64{did.Saw})})
	return did
}

// collect looks at the next register; behind the last one a collect has ended.
func collect(p *Pending) api.Did {
	did, _ := p.cells.Do(api.Act{Kind: api.ActLoad, Cell: len(p.words)})
	p.words = append(p.words, did.Saw)
	if len(p.words) == p.cells.Len() {
		p.collected()
	}
	return did
}

// collected ends the scan, or begins one collect more. Two collects that saw the same words saw what all registers had at the moment between them, as no word comes twice.
func (p *Pending) collected() {
	p.collects++
	clean := slices.Equal(p.words, p.ahead) // not of the first collect, which has none ahead
	if clean || p.collects == p.op.Tries {
		p.end(api.View{Regs: regsOf(p.words), Clean: clean, Collects: p.collects})
		return
	}
	p.ahead, p.words = p.words, p.ahead[:0]
}

func (p *Pending) end(v api.View) {
	p.view = v
	p.next = nil
}
