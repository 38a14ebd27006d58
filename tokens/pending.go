package tokens

import "abacus/api"

// Pending is an operation that is done action by action.
type Pending struct {
	bucket *Bucket
	at, n  int64
	saw    uint64 // the word that was loaded last
	put    uint64 // the word to put where that is
	next   func(p *Pending) api.Did
	took   api.Took
}

// Start is an operation ahead of its first action.
func (b *Bucket) Start(op api.TokenOp) (*Pending, api.Errno) {
	switch {
	case b == nil:
		return nil, api.ErrNil
	case !right(op):
		return nil, api.ErrRange
	}
	p := &Pending{bucket: b, at: op.At, n: op.N}
	switch op.Kind {
	case api.TokenTake:
		p.next = load
	case api.TokenPeek:
		p.next = peek
	}
	return p, api.OK
}

func right(op api.TokenOp) bool {
	switch op.Kind {
	case api.TokenTake:
		return moment(op.At) && op.N >= 1 && op.N <= api.MaxBurst
	case api.TokenPeek:
		return moment(op.At) && op.N == 0
	}
	return false
}

// Step does one action: true: the operation has ended by it.
func (p *Pending) Step() (api.Did, bool) {
	if p.Done() {
		return api.Did{}, true
	}
	did := p.next(p)
	return did, p.Done()
}

// Done tells whether the operation has ended: it has no next action then.
func (p *Pending) Done() bool {
	return p == nil || p.next == nil
}

// Answer is what the operation answers, when it has ended.
func (p *Pending) Answer() api.Took {
	if p == nil {
		return api.Took{}
	}
	return p.took
}

// load looks whether the tokens are there, and up to which moment all are spent then.
func load(p *Pending) api.Did {
	b := p.bucket
	did, _ := b.cell.Do(api.Act{Kind: api.ActLoad})
	next := p.spent(did.Saw) + p.n*b.every
	if wait := next - b.limit(p.at); wait > 0 {
		if p.n > b.burst {
			wait = -1 // so many are never there
		}
		p.end(api.Took{Wait: wait})
		return did
	}
	p.saw, p.put = did.Saw, uint64(next)
	p.next = swap
	return did
}

// swap moves the moment on, if it is what was loaded as yet; else all begins anew, as the tokens may be gone by now.
func swap(p *Pending) api.Did {
	did, _ := p.bucket.cell.Do(api.Act{Kind: api.ActCas, Old: p.saw, New: p.put})
	if did.Ok {
		p.end(api.Took{Ok: true})
	} else {
		p.next = load
	}
	return did
}

// peek looks how many tokens there are: none, if somebody spent them ahead at a later moment.
func peek(p *Pending) api.Did {
	b := p.bucket
	did, _ := b.cell.Do(api.Act{Kind: api.ActLoad})
	room := max(0, b.limit(p.at)-p.spent(did.Saw))
	p.end(api.Took{Left: room / b.every})
	return did
}

// spent is the moment up to which all tokens are spent, by the bucket's word: those up to the operation's own moment that nobody took are no more there.
func (p *Pending) spent(word uint64) int64 {
	return max(int64(word), p.at)
}

func (p *Pending) end(took api.Took) {
	p.took = took
	p.next = nil
}
