package lin

import "abacus/api"

// words is what is known of the calls of a word.
type words struct {
	*history
	asking set      // those that come only where the word has a certain number
	asks   []uint64 // which one that is
	making set      // those behind which it has a certain number, and had another one
	makes  []uint64 // which one that is
	vague  set      // adds that have not ended: behind them it may have any
	fussy  set      // swaps that were refused: they come only where it has not a certain number
	makers []set    // of each call that asks: those that make what it asks for
	rivals []set    // of each call that asks: those that have ended that ask for the same
}

func newWords(h *history, own set) *words {
	n := len(h.calls)
	w := &words{history: h, asks: make([]uint64, n), makes: make([]uint64, n), makers: make([]set, n), rivals: make([]set, n)}
	for i := range own.numbers() {
		w.note(i)
	}
	for i := range w.asking.numbers() {
		for j := range own.numbers() {
			if w.making.has(j) && w.makes[j] == w.asks[i] {
				w.makers[i] |= only(j)
			}
			if w.asking.has(j) && w.asks[j] == w.asks[i] {
				w.rivals[i] |= only(j) & h.ended
			}
		}
	}
	return w
}

// note notes what a call asks for, and what it makes.
func (w *words) note(i int) {
	c, ended := w.calls[i], w.ended.has(i)
	switch {
	case c.Kind == api.CallRead:
		w.noteAsked(i, c.Got)
	case c.Kind == api.CallWrite:
		w.noteMade(i, c.Arg)
	case c.Kind == api.CallAdd && ended:
		w.noteAsked(i, c.Got-c.Arg)
		w.noteMade(i, c.Got)
	case c.Kind == api.CallAdd:
		w.vague |= only(i)
	case ended && !c.Ok:
		w.fussy |= only(i)
	default:
		w.noteAsked(i, c.Arg)
		w.noteMade(i, c.New)
	}
}

func (w *words) noteAsked(i int, number uint64) {
	w.asking |= only(i)
	w.asks[i] = number
}

func (w *words) noteMade(i int, number uint64) {
	if w.alters.has(i) {
		w.making |= only(i)
		w.makes[i] = number
	}
}

// hopeful tells whether the word can have what it is asked for: each number once, and as often as calls make another one of it. An add that has not ended may make up for one that is missing.
func (w *words) hopeful(x situation) bool {
	missing := 0
	for i := range (x.left & w.asking & w.ended).numbers() {
		rivals := x.left & w.rivals[i]
		if rivals.least() != i {
			continue // they are counted already
		}
		comes := (x.left & w.makers[i]).size()
		if w.asks[i] == x.word {
			comes++
		}
		missing += max(0, max(1, (rivals&w.alters).size())-comes)
	}
	return missing <= (x.left & w.vague).size()
}

// choices are the situations behind adds and swaps that can come now, and behind writes: behind just one of these, if nothing can be lost by that.
func (w *words) choices(x situation) []situation {
	var list, writes []situation
	for _, i := range w.turns(x) {
		next, _ := w.step(x, i)
		switch {
		case !w.ended.has(i) && w.useless(next):
		case w.calls[i].Kind == api.CallWrite:
			writes = append(writes, next)
		default:
			list = append(list, next)
		}
	}
	for _, next := range writes {
		if end, closed := w.through(next); closed {
			return append(list, end)
		}
	}
	return append(list, writes...)
}

// useless tells whether a call that has not ended may as well be left out, as nobody needs the number that the word has behind it.
func (w *words) useless(x situation) bool {
	return w.askers(x) == 0 && !w.leads(x) && x.left&w.fussy == 0
}

// through goes on from behind a write, as long as just one call asks for what the word has, and can come now. If at the end nobody asks for it, all these calls may as well come now, ahead of any other write: wherever they stand in an order, a write or nothing stands behind them; so they can be taken out there.
func (w *words) through(x situation) (situation, bool) {
	for {
		x = w.settle(x)
		askers := w.askers(x)
		switch {
		case w.leads(x):
			return x, false
		case askers == 0:
			return x, !w.minds(x)
		case askers.size() > 1 || w.free(x.left, askers) == 0:
			return x, false
		}
		x, _ = w.step(x, askers.least())
	}
}

// askers are those that are left that ask for what the word has.
func (w *words) askers(x situation) set {
	var s set
	for i := range (x.left & w.asking).numbers() {
		if w.asks[i] == x.word {
			s |= only(i)
		}
	}
	return s
}

// leads tells whether adds that have not ended may make of what the word has something that is asked for: for sure, if there are several, as who knows what they come to.
func (w *words) leads(x situation) bool {
	adds := x.left & w.vague
	if adds.size() != 1 {
		return adds != 0
	}
	x.word += w.calls[adds.least()].Arg
	return w.askers(x) != 0
}

// minds tells whether a swap that was refused may find what it asked for, if it is left for later.
func (w *words) minds(x situation) bool {
	for i := range (x.left & w.fussy).numbers() {
		if x.left&w.vague != 0 {
			return true
		}
		for j := range (x.left & w.making).numbers() {
			if w.makes[j] == w.calls[i].Arg {
				return true
			}
		}
	}
	return false
}
