package hist

import (
	"slices"

	"abacus/api"
	"abacus/scale"
)

// Pending is an operation that is done action by action.
type Pending struct {
	hist *Hist
	next func() api.Did
	shot api.Shot // what a HistShow has seen
}

// Start is an operation ahead of its first action.
func (h *Hist) Start(op api.HistOp) (*Pending, api.Errno) {
	if h == nil {
		return nil, api.ErrNil
	}
	p := &Pending{hist: h}
	switch op.Kind {
	case api.HistRecord:
		bucket, why := scale.Index(h.scale, op.V)
		if why != api.OK || op.N == 0 {
			return nil, api.ErrRange
		}
		p.record(bucket, uint64(op.V), op.N)
	case api.HistShow:
		if op.V != 0 || op.N != 0 {
			return nil, api.ErrRange
		}
		p.show()
	default:
		return nil, api.ErrRange
	}
	return p, api.OK
}

// Step does one action: true: it was the last one.
func (p *Pending) Step() (api.Did, bool) {
	if p.Done() {
		return api.Did{}, true
	}
	did := p.next()
	return did, p.Done()
}

// Done tells whether the last action was done: there is no next one then.
func (p *Pending) Done() bool {
	return p == nil || p.next == nil
}

// Answer is the snapshot that a HistShow has taken, when its last action was done.
func (p *Pending) Answer() api.Shot {
	if p == nil || p.next != nil {
		return api.Shot{}
	}
	shot := p.shot
	shot.Buckets = slices.Clone(shot.Buckets)
	return shot
}

// record counts the number in its bucket first and in the count last, which who looks loads first: so no more are counted than are in the buckets.
func (p *Pending) record(bucket int, v, n uint64) {
	p.add(bucket, n, func() {
		p.add(p.hist.buckets+sum, v*n, func() {
			p.keepLeast(v, func() {
				p.keepGreatest(v+1, func() {
					p.add(p.hist.buckets+count, n, p.end)
				})
			})
		})
	})
}

func (p *Pending) keepLeast(word uint64, then func()) {
	p.keep(p.hist.buckets+least, word, func(saw uint64) bool { return word < saw }, then)
}

func (p *Pending) keepGreatest(word uint64, then func()) {
	p.keep(p.hist.buckets+greatest, word, func(saw uint64) bool { return word > saw }, then)
}

func (p *Pending) show() {
	p.load(p.hist.buckets+count, func(saw uint64) {
		p.shot.Count = saw
		p.load(p.hist.buckets+least, func(saw uint64) {
			p.shot.Least = int64(saw) // all bits are -1
			p.load(p.hist.buckets+greatest, func(saw uint64) {
				p.shot.Greatest = int64(saw) - 1
				p.load(p.hist.buckets+sum, func(saw uint64) {
					p.shot.Sum = saw
					p.shot.Buckets = make([]uint64, 0, p.hist.buckets)
					p.gather()
				})
			})
		})
	})
}

// gather looks at the bucket behind those that were seen, and at all behind it.
func (p *Pending) gather() {
	p.load(len(p.shot.Buckets), func(saw uint64) {
		p.shot.Buckets = append(p.shot.Buckets, saw)
		if len(p.shot.Buckets) < p.hist.buckets {
			p.gather()
		} else {
			p.end()
		}
	})
}

func (p *Pending) add(cell int, by uint64, then func()) {
	p.act(api.Act{Kind: api.ActAdd, Cell: cell, New: by}, func(api.Did) { then() })
}

func (p *Pending) load(cell int, then func(saw uint64)) {
	p.act(api.Act{Kind: api.ActLoad, Cell: cell}, func(did api.Did) { then(did.Saw) })
}

// keep puts a word into a cell, if it is better than the one there. Where that is another one by the time that it is to be swapped, it is looked at anew.
func (p *Pending) keep(cell int, word uint64, better func(saw uint64) bool, then func()) {
	p.load(cell, func(saw uint64) {
		if !better(saw) {
			then()
			return
		}
		p.act(api.Act{Kind: api.ActCas, Cell: cell, Old: saw, New: word}, func(did api.Did) {
			if did.Ok {
				then()
			} else {
				p.keep(cell, word, better, then)
			}
		})
	})
}

// act makes an action the next one; then is handed what it did, and makes what comes behind it.
func (p *Pending) act(a api.Act, then func(did api.Did)) {
	p.next = func() api.Did {
		did, _ := p.hist.cells.Do(a)
		then(did)
		return did
	}
}

func (p *Pending) end() {
	p.next = nil
}
