package feed

import "abacus/api"

// Pending is an operation under way.
type Pending struct {
	feed   *Feed
	next   func() api.Did
	answer api.Fed
	why    api.Errno
}

// Start begins an operation.
func (f *Feed) Start(op api.FeedOp) (*Pending, api.Errno) {
	switch {
	case f == nil:
		return nil, api.ErrNil
	case op.X != 0 && op.Kind != api.FeedPut:
		return nil, api.ErrAct
	}
	p := &Pending{feed: f}
	switch op.Kind {
	case api.FeedPut:
		p.put(op.X)
	case api.FeedTake:
		p.take()
	case api.FeedLen:
		p.count()
	default:
		return nil, api.ErrAct
	}
	return p, api.OK
}

// Step does the next action: true: the operation has ended.
func (p *Pending) Step() (api.Did, bool) {
	if p.Done() {
		return api.Did{}, true
	}
	did := p.next()
	return did, p.Done()
}

// Done tells whether the operation has ended: it has no next action then.
func (p *Pending) Done() bool {
	return p == nil || p.next == nil
}

// Answer is what the operation answers, when it has ended, or the error with which it did.
func (p *Pending) Answer() (api.Fed, api.Errno) {
	if p == nil {
		return api.Fed{}, api.ErrNil
	}
	return p.answer, p.why
}

// put puts the value first, and then says by the turn that it is there: so nobody takes it ahead of that.
func (p *Pending) put(x uint64) {
	p.claim(nextPut, 0, api.ErrFull, func(place uint64) {
		p.store(place, value, x, func() {
			p.store(place, turn, place+1, func() { p.end(api.Fed{At: place, X: x}, api.OK) })
		})
	})
}

// take takes the value first, and then gives the slot to the place that uses it next: so nobody puts there ahead of that.
func (p *Pending) take() {
	p.claim(nextTake, 1, api.ErrNone, func(place uint64) {
		p.load(p.feed.cellOf(place, value), func(x uint64) {
			p.store(place, turn, place+p.feed.size, func() { p.end(api.Fed{At: place, X: x}, api.OK) })
		})
	})
}

// count looks at what was taken first, so that it is never more than what was put.
func (p *Pending) count() {
	p.load(nextTake, func(taken uint64) {
		p.load(nextPut, func(put uint64) {
			p.end(api.Fed{X: min(put-taken, p.feed.size)}, api.OK)
		})
	})
}

// claim makes the next place at an end of the feed the operation's own, when the turn of its slot is so much more than the place. A lesser turn says that the slot is not ready: the operation ends. A greater one says that the place is gone: the next one is looked for.
func (p *Pending) claim(end int, more uint64, unready api.Errno, then func(place uint64)) {
	anew := func() { p.claim(end, more, unready, then) }
	p.load(end, func(place uint64) {
		p.load(p.feed.cellOf(place, turn), func(saw uint64) {
			switch own := place + more; {
			case saw < own:
				p.end(api.Fed{}, unready)
			case saw > own:
				anew()
			default:
				p.raise(end, place, func() { then(place) }, anew)
			}
		})
	})
}

func (p *Pending) load(cell int, then func(saw uint64)) {
	p.act(api.Act{Kind: api.ActLoad, Cell: cell}, func(did api.Did) { then(did.Saw) })
}

// store puts x into a part of a place's slot.
func (p *Pending) store(place uint64, part int, x uint64, then func()) {
	p.act(api.Act{Kind: api.ActStore, Cell: p.feed.cellOf(place, part), New: x}, func(api.Did) { then() })
}

// raise puts one more into a cell, if it has what was loaded as yet; else somebody else did, and all is looked at anew.
func (p *Pending) raise(cell int, saw uint64, then, anew func()) {
	p.act(api.Act{Kind: api.ActCas, Cell: cell, Old: saw, New: saw + 1}, func(did api.Did) {
		if did.Ok {
			then()
		} else {
			anew()
		}
	})
}

// act makes an action the next one; then is handed what it did, and says what comes behind it.
func (p *Pending) act(a api.Act, then func(did api.Did)) {
	p.next = func() api.Did {
		did, _ := p.feed.cells.Do(a)
		then(did)
		return did
	}
}

func (p *Pending) end(answer api.Fed, why api.Errno) {
	p.answer, p.why = answer, why
	p.next = nil
}
