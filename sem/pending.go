package sem

import "abacus/api"

// Pending is an operation under way.
type Pending struct {
	sem    *Sem
	next   func() api.Did
	answer uint64
	why    api.Errno
}

// Start begins an operation.
func (s *Sem) Start(k api.SemKind) (*Pending, api.Errno) {
	if s == nil {
		return nil, api.ErrNil
	}
	p := &Pending{sem: s}
	switch k {
	case api.SemEnter:
		p.enter()
	case api.SemTry:
		p.try()
	case api.SemLeave:
		p.leave()
	case api.SemInside:
		p.inside()
	default:
		return nil, api.ErrAct
	}
	return p, api.OK
}

// Step does the next action: true: the operation has ended.
func (p *Pending) Step() (api.Did, bool) {
	if p.Done() {
		return api.Did{}, true
	}
	did := p.next()
	return did, p.Done()
}

// Done tells whether the operation has ended: it has no next action then.
func (p *Pending) Done() bool {
	return p == nil || p.next == nil
}

// Answer is what the operation answers, when it has ended, or the error with which it did.
func (p *Pending) Answer() (uint64, api.Errno) {
	if p == nil {
		return 0, api.ErrNil
	}
	return p.answer, p.why
}

func (p *Pending) enter() {
	p.act(api.Act{Kind: api.ActAdd, Cell: drawn, New: 1}, func(did api.Did) {
		p.wait(did.Saw)
	})
}

func (p *Pending) wait(ticket uint64) {
	p.load(given, func(gave uint64) {
		if ticket < p.sem.served(gave) {
			p.end(ticket, api.OK)
		} else {
			p.wait(ticket)
		}
	})
}

func (p *Pending) try() {
	p.look(func(gave, drew uint64) {
		if drew >= p.sem.served(gave) {
			p.end(0, api.ErrFull)
		} else {
			p.raise(drawn, drew, drew, p.try)
		}
	})
}

func (p *Pending) leave() {
	p.look(func(gave, drew uint64) {
		if gave >= drew {
			p.end(0, api.ErrFree)
		} else {
			p.raise(given, gave, gave+1, p.leave)
		}
	})
}

func (p *Pending) inside() {
	p.look(func(gave, drew uint64) {
		p.end(min(drew, p.sem.served(gave))-gave, api.OK)
	})
}

// look looks at both cells: what was given back first, so that it is never more than what was drawn.
func (p *Pending) look(then func(gave, drew uint64)) {
	p.load(given, func(gave uint64) {
		p.load(drawn, func(drew uint64) {
			then(gave, drew)
		})
	})
}

func (p *Pending) load(cell int, then func(saw uint64)) {
	p.act(api.Act{Kind: api.ActLoad, Cell: cell}, func(did api.Did) {
		then(did.Saw)
	})
}

// raise puts one more into a cell, if it has what was loaded as yet; else all is to be looked at anew, as the place may be gone by now.
func (p *Pending) raise(cell int, saw, answer uint64, anew func()) {
	p.act(api.Act{Kind: api.ActCas, Cell: cell, Old: saw, New: saw + 1}, func(did api.Did) {
		if did.Ok {
			p.end(answer, api.OK)
		} else {
			anew()
		}
	})
}

// act makes an action the next one; then is handed what it did, and says what comes behind it.
func (p *Pending) act(a api.Act, then func(did api.Did)) {
	p.next = func() api.Did {
		did, _ := p.sem.cells.Do(a)
		then(did)
		return did
	}
}

func (p *Pending) end(answer uint64, why api.Errno) {
	p.answer, p.why = answer, why
	p.next = nil
}
