package lin

// hopeful tells whether what is there can go to those who were told it, and whether there is an order as far as how many there are goes.
func (p *pile) hopeful(x situation) bool {
	if p.circular || !p.enough(x) || !p.emptied(x) {
		return false
	}
	if p.stack && !p.fromTop(x) || !p.stack && !p.fromFront(x) {
		return false
	}
	return p.counts(situation{x.left, state{word: uint64(len(x.list))}})
}

// enough tells whether there is enough of each code for those who were told it.
func (p *pile) enough(x situation) bool {
	list := p.within(x)
	for i := range (x.left & p.told).numbers() {
		code := byte(p.calls[i].Got)
		there := count(list, code) + (x.left & p.givers[code]).size()
		if (x.left & p.takers[code]).size() > there {
			return false
		}
	}
	return true
}

// within is what may yet leave: what lies on a stack below something that nobody takes does not.
func (p *pile) within(x situation) string {
	for n := len(x.list); p.stack && n > 0; n-- {
		if x.left&(p.takers[x.list[n-1]]|p.wild) == 0 {
			return x.list[n:]
		}
	}
	return x.list
}

// emptied tells whether those who found nothing can: what is there, and what must be put ahead of them, must be taken ahead of them. What nobody was told goes to those who have not ended.
func (p *pile) emptied(x situation) bool {
	for i := range (x.left & p.bare).numbers() {
		var there [codes]int
		for n := range len(x.list) {
			there[x.list[n]]++
		}
		for j := range (x.left & p.giving & p.ahead[i]).numbers() {
			there[p.calls[j].Arg]++
		}
		earlier := x.left &^ p.behind[i]
		over := 0
		for code, n := range there {
			over += max(0, n-(earlier&p.takers[code]).size())
		}
		if over > (earlier & p.wild).size() {
			return false
		}
	}
	return true
}

// fromFront tells whether what is in a queue can go, one behind another, to those who were told it: of several each time to the one that ended first, as the others can wait longer. What nobody was told goes to one who has not ended.
func (p *pile) fromFront(x situation) bool {
	told, wild := x.left&p.told, x.left&p.wild
	for n := 0; n < len(x.list) && told != 0; n++ {
		if i, found := p.soonest(told, p.takers[x.list[n]]); found {
			told &^= only(i)
		} else if i, found := p.soonest(told|wild, wild); found {
			wild &^= only(i)
		} else {
			return false
		}
	}
	return true
}

// soonest is, of some calls ahead of which none that is left must come, the one that ends first.
func (p *pile) soonest(left, some set) (int, bool) {
	soonest, found := 0, false
	for i := range p.free(left, some).numbers() {
		if !found || p.end(i) < p.end(soonest) {
			soonest, found = i, true
		}
	}
	return soonest, found
}

// fromTop tells whether all that must leave a stack can, the upper ones first. What nobody can take who was told it goes to those who have not ended.
func (p *pile) fromTop(x situation) bool {
	var there [codes]int
	var sooner set // those that come ahead of those that take what lies above
	over := 0
	for above := range p.deep(x) {
		code := x.list[len(x.list)-1-above]
		takers := x.left & p.takers[code]
		fit := p.fit(x, takers&^sooner, above)
		if fit != 0 {
			there[code]++
		}
		if fit == 0 || there[code] > takers.size() {
			over++
		}
		if i, sure := p.sure(x, code); sure {
			if fit == 0 {
				return false
			}
			sooner |= p.ahead[i]
		}
	}
	return over <= (x.left & p.wild).size()
}

// deep is how much of a stack must leave, as what is yet to be put is not enough for those who were told it. (What is there is enough then.)
func (p *pile) deep(x situation) int {
	deep := 0
	for i := range (x.left & p.told).numbers() {
		code := byte(p.calls[i].Got)
		missing := (x.left & p.takers[code]).size() - (x.left & p.givers[code]).size()
		for above := 0; missing > 0; above++ {
			if x.list[len(x.list)-1-above] == code {
				missing--
				deep = max(deep, above+1)
			}
		}
	}
	return deep
}

// fit is those of some calls that can take what lies below so much: so much, and what must be put ahead of them, is taken ahead of them; and what must be taken ahead of them lies above, or is put ahead of them.
func (p *pile) fit(x situation, some set, above int) set {
	var fit set
	for i := range some.numbers() {
		must, may := x.left&p.ahead[i], x.left&^p.behind[i]&^only(i)
		gone := above+(must&p.giving).size() <= (may & (p.told | p.wild)).size()
		found := (must & p.told).size() <= above+(may&p.giving).size()
		if gone && found {
			fit |= only(i)
		}
	}
	return fit
}
