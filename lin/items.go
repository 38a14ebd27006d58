package lin

import "slices"

const never = -1

// item is something that one call puts, if any does, and one takes, or none.
type item struct {
	put, take int
}

// items are those of which it is certain who takes them.
func (p *pile) items() []item {
	var l []item
	for code, givers := range p.givers {
		takers := p.takers[code]
		switch {
		case givers.size() == 1 && takers.size() == 1:
			l = append(l, item{givers.least(), takers.least()})
		case takers == 0 && p.wild == 0:
			for i := range givers.numbers() {
				l = append(l, item{i, never})
			}
		}
	}
	return l
}

// derive adds to what comes ahead of each call what follows from the order in which items leave, till nothing more follows.
func (p *pile) derive() {
	own := *p.history
	own.ahead = slices.Clone(own.ahead)
	p.history = &own
	rule := p.firstOut
	if p.stack {
		rule = p.lastOut
	}
	items := p.items()
	for _, a := range items {
		p.add(a.put, a.take)
	}
	for more := true; more; {
		more = p.join()
		for _, a := range items {
			for _, b := range items {
				more = a != b && rule(a, b) || more
			}
		}
	}
	p.behind = make([]set, len(p.calls))
	for i := range p.own.numbers() {
		p.circular = p.circular || p.ahead[i].has(i)
		for j := range (p.ahead[i] & p.own).numbers() {
			p.behind[j] |= only(i)
		}
	}
}

// firstOut adds what follows for two items of a queue: what is put first is taken first.
func (p *pile) firstOut(a, b item) bool {
	more := p.sooner(a.put, b.put) && p.add(a.take, b.take)
	return p.sooner(a.take, b.take) && p.add(a.put, b.put) || more
}

// lastOut adds what follows for two items of a stack: if two of these hold, the third does not: a is put ahead of b, b is put ahead of a's being taken, a is taken ahead of b.
func (p *pile) lastOut(a, b item) bool {
	under, while, out := p.sooner(a.put, b.put), p.sooner(b.put, a.take), p.sooner(a.take, b.take)
	more := under && while && p.add(b.take, a.take)
	more = under && out && p.add(a.take, b.put) || more
	return while && out && p.add(b.put, a.put) || more
}

// sooner tells whether it is known that a call comes ahead of another one, or of none.
func (p *pile) sooner(i, j int) bool {
	return i != never && (j == never || p.ahead[j].has(i))
}

// add notes that a call comes ahead of another one: true, if that is new.
func (p *pile) add(i, j int) bool {
	if i == never || j == never || p.ahead[j].has(i) {
		return false
	}
	p.ahead[j] |= only(i)
	return true
}

// join has all come ahead of a call that comes ahead of one that does.
func (p *pile) join() bool {
	more := false
	for i := range p.own.numbers() {
		for j := range p.own.numbers() {
			further := p.ahead[i] & p.own &^ p.ahead[j]
			if p.ahead[j].has(i) && further != 0 {
				p.ahead[j] |= further
				more = true
			}
		}
	}
	return more
}
