package feed_test

import (
	"math/rand"
	"slices"
	"testing"

	"abacus/api"
	"abacus/feed"
)

var (
	take = api.FeedOp{Kind: api.FeedTake}
	look = api.FeedOp{Kind: api.FeedLen}
)

func put(x uint64) api.FeedOp {
	return api.FeedOp{Kind: api.FeedPut, X: x}
}

func begin(t *testing.T, f *feed.Feed, op api.FeedOp) *feed.Pending {
	t.Helper()
	p, why := f.Start(op)
	if p == nil || why != api.OK {
		t.Fatalf("Start(%v): error %d", op, why)
	}
	return p
}

func TestStart(t *testing.T) { // 21.1
	f := made(t, 2)
	puts(t, f, 5, 0, api.OK)
	for _, op := range []api.FeedOp{
		{}, {X: 1}, {Kind: api.FeedCount}, {Kind: api.FeedCount, X: 1}, {Kind: api.FeedCount + 1}, {Kind: 255},
		{Kind: api.FeedTake, X: 1}, {Kind: api.FeedTake, X: 1 << 63}, {Kind: api.FeedLen, X: 1}, {Kind: api.FeedLen, X: 1<<64 - 1},
	} {
		if p, why := f.Start(op); p != nil || why != api.ErrAct {
			t.Errorf("Start(%v): error %d", op, why)
		}
	}
	for _, op := range []api.FeedOp{put(0), put(1), put(1<<64 - 1), take, look} {
		p := begin(t, f, op)
		if got, why := p.Answer(); got != (api.Fed{}) || why != api.OK || p.Done() {
			t.Errorf("%v, of which nothing is done yet: %v, error %d, %v", op, got, why, p.Done())
		}
	}
	has(t, f, 1)
	puts(t, f, 6, 1, api.OK)
	takes(t, f, 0, 5, api.OK)
	takes(t, f, 1, 6, api.OK)
}

func loads(cell int, saw uint64) api.Did {
	return api.Did{Kind: api.ActLoad, Cell: cell, Saw: saw, Put: saw, Ok: true}
}

func stores(cell int, saw, x uint64) api.Did {
	return api.Did{Kind: api.ActStore, Cell: cell, Saw: saw, Put: x, Ok: true}
}

func claims(cell int, saw uint64) api.Did {
	return api.Did{Kind: api.ActCas, Cell: cell, Saw: saw, Put: saw + 1, Ok: true}
}

func fails(cell int, saw uint64) api.Did {
	return api.Did{Kind: api.ActCas, Cell: cell, Saw: saw, Put: saw}
}

// goesOn holds the next steps of an operation against what is wanted; none of them is to end it.
func goesOn(t *testing.T, p *feed.Pending, want ...api.Did) {
	t.Helper()
	for i, d := range want {
		if got, ended := p.Step(); got != d || ended || p.Done() {
			t.Errorf("step %d: %v, %v, want %v", i, got, ended, d)
		}
		if got, why := p.Answer(); got != (api.Fed{}) || why != api.OK {
			t.Errorf("behind step %d: %v, error %d", i, got, why)
		}
	}
}

// ends holds the last step of an operation, and what it answers, against what is wanted.
func ends(t *testing.T, p *feed.Pending, d api.Did, want api.Fed, err api.Errno) {
	t.Helper()
	if got, ended := p.Step(); got != d || !ended {
		t.Errorf("the last step: %v, %v, want %v", got, ended, d)
	}
	for range 2 {
		if got, why := p.Answer(); got != want || why != err {
			t.Errorf("Answer: %v, error %d, want %v, error %d", got, why, want, err)
		}
		if got, ended := p.Step(); got != (api.Did{}) || !ended || !p.Done() {
			t.Errorf("at its end: %v, %v, %v", got, ended, p.Done())
		}
	}
}

func TestStepsAlone(t *testing.T) { // 21.1, and the words
	f := made(t, 2)
	p := begin(t, f, take)
	goesOn(t, p, loads(1, 0))
	ends(t, p, loads(2, 0), api.Fed{}, api.ErrNone)

	p = begin(t, f, look)
	goesOn(t, p, loads(1, 0))
	ends(t, p, loads(0, 0), api.Fed{}, api.OK)

	p = begin(t, f, put(5)) // example 2
	goesOn(t, p, loads(0, 0), loads(2, 0), claims(0, 0), stores(3, 0, 5))
	ends(t, p, stores(2, 0, 1), api.Fed{At: 0, X: 5}, api.OK)

	p = begin(t, f, put(6))
	goesOn(t, p, loads(0, 1), loads(4, 1), claims(0, 1), stores(5, 0, 6))
	ends(t, p, stores(4, 1, 2), api.Fed{At: 1, X: 6}, api.OK)

	p = begin(t, f, put(7))
	goesOn(t, p, loads(0, 2))
	ends(t, p, loads(2, 1), api.Fed{}, api.ErrFull)

	p = begin(t, f, look)
	goesOn(t, p, loads(1, 0))
	ends(t, p, loads(0, 2), api.Fed{X: 2}, api.OK)

	p = begin(t, f, take)
	goesOn(t, p, loads(1, 0), loads(2, 1), claims(1, 0), loads(3, 5))
	ends(t, p, stores(2, 1, 2), api.Fed{At: 0, X: 5}, api.OK)

	p = begin(t, f, put(7))
	goesOn(t, p, loads(0, 2), loads(2, 2), claims(0, 2), stores(3, 5, 7))
	ends(t, p, stores(2, 2, 3), api.Fed{At: 2, X: 7}, api.OK)

	p = begin(t, f, take)
	goesOn(t, p, loads(1, 1), loads(4, 2), claims(1, 1), loads(5, 6))
	ends(t, p, stores(4, 2, 3), api.Fed{At: 1, X: 6}, api.OK)
}

// The cells of the last slot of the greatest feed.
func TestLastSlot(t *testing.T) { // 21.1, and the words
	const last = api.MaxFeed - 1
	f := made(t, api.MaxFeed)
	for place := range uint64(last) {
		puts(t, f, place, place, api.OK)
	}
	p := begin(t, f, put(9))
	goesOn(t, p, loads(0, last), loads(2+2*last, last), claims(0, last), stores(3+2*last, 0, 9))
	ends(t, p, stores(2+2*last, last, last+1), api.Fed{At: last, X: 9}, api.OK)
	p = begin(t, f, put(8))
	goesOn(t, p, loads(0, last+1))
	ends(t, p, loads(2, 1), api.Fed{}, api.ErrFull)
	for place := range uint64(last) {
		takes(t, f, place, place, api.OK)
	}
	p = begin(t, f, take)
	goesOn(t, p, loads(1, last), loads(2+2*last, last+1), claims(1, last), loads(3+2*last, 9))
	ends(t, p, stores(2+2*last, last+1, last+api.MaxFeed), api.Fed{At: last, X: 9}, api.OK)
}

// What was put is there when the last action of its FeedPut is done, no sooner; nor is what stands behind it.
func TestTakeBesidePut(t *testing.T) { // the words, and example 2
	f := made(t, 2)
	p := begin(t, f, put(5))
	goesOn(t, p, loads(0, 0), loads(2, 0))
	takes(t, f, 0, 0, api.ErrNone)
	goesOn(t, p, claims(0, 0))
	q := begin(t, f, take)
	goesOn(t, q, loads(1, 0))
	ends(t, q, loads(2, 0), api.Fed{}, api.ErrNone)
	puts(t, f, 6, 1, api.OK)
	has(t, f, 2)
	takes(t, f, 0, 0, api.ErrNone)
	goesOn(t, p, stores(3, 0, 5))
	takes(t, f, 0, 0, api.ErrNone)
	ends(t, p, stores(2, 0, 1), api.Fed{At: 0, X: 5}, api.OK)
	takes(t, f, 0, 5, api.OK)
	takes(t, f, 1, 6, api.OK)
}

// A slot is free when the last action of its FeedTake is done, no sooner; nor are those behind it.
func TestPutBesideTake(t *testing.T) { // the words, 21.6
	f := made(t, 2)
	puts(t, f, 5, 0, api.OK)
	puts(t, f, 6, 1, api.OK)
	p := begin(t, f, take)
	goesOn(t, p, loads(1, 0), loads(2, 1))
	puts(t, f, 7, 0, api.ErrFull)
	goesOn(t, p, claims(1, 0))
	has(t, f, 1)
	puts(t, f, 7, 0, api.ErrFull)
	takes(t, f, 1, 6, api.OK)
	has(t, f, 0)
	goesOn(t, p, loads(3, 5))
	puts(t, f, 7, 0, api.ErrFull)
	takes(t, f, 0, 0, api.ErrNone)
	ends(t, p, stores(2, 1, 2), api.Fed{At: 0, X: 5}, api.OK)
	puts(t, f, 7, 2, api.OK)
	takes(t, f, 2, 7, api.OK)
}

// Whose place is gone begins anew: at the turn, or at the ActCas.
func TestPlaceIsGone(t *testing.T) { // the words
	f := made(t, 3)
	late, later := begin(t, f, put(5)), begin(t, f, put(6))
	goesOn(t, late, loads(0, 0))
	goesOn(t, later, loads(0, 0), loads(2, 0))
	puts(t, f, 7, 0, api.OK)
	goesOn(t, late, loads(2, 1), loads(0, 1), loads(4, 1))
	goesOn(t, later, fails(0, 1), loads(0, 1), loads(4, 1), claims(0, 1), stores(5, 0, 6))
	goesOn(t, late, fails(0, 2), loads(0, 2), loads(6, 2), claims(0, 2), stores(7, 0, 5))
	ends(t, later, stores(4, 1, 2), api.Fed{At: 1, X: 6}, api.OK)
	ends(t, late, stores(6, 2, 3), api.Fed{At: 2, X: 5}, api.OK)

	late, later = begin(t, f, take), begin(t, f, take)
	goesOn(t, late, loads(1, 0))
	goesOn(t, later, loads(1, 0), loads(2, 1))
	takes(t, f, 0, 7, api.OK)
	goesOn(t, late, loads(2, 3), loads(1, 1), loads(4, 2))
	goesOn(t, later, fails(1, 1), loads(1, 1), loads(4, 2), claims(1, 1), loads(5, 6))
	goesOn(t, late, fails(1, 2), loads(1, 2), loads(6, 3), claims(1, 2), loads(7, 5))
	ends(t, later, stores(4, 2, 4), api.Fed{At: 1, X: 6}, api.OK)
	ends(t, late, stores(6, 3, 5), api.Fed{At: 2, X: 5}, api.OK)
}

// Whose place is gone may find no room, or nothing, when it begins anew.
func TestPlaceIsGoneAndNoneIsLeft(t *testing.T) { // the words
	f := made(t, 2)
	p, q := begin(t, f, put(5)), begin(t, f, put(5))
	goesOn(t, p, loads(0, 0), loads(2, 0))
	goesOn(t, q, loads(0, 0))
	puts(t, f, 6, 0, api.OK)
	puts(t, f, 7, 1, api.OK)
	goesOn(t, p, fails(0, 2), loads(0, 2))
	ends(t, p, loads(2, 1), api.Fed{}, api.ErrFull)
	goesOn(t, q, loads(2, 1), loads(0, 2))
	ends(t, q, loads(2, 1), api.Fed{}, api.ErrFull)

	p, q = begin(t, f, take), begin(t, f, take)
	goesOn(t, p, loads(1, 0), loads(2, 1))
	goesOn(t, q, loads(1, 0))
	takes(t, f, 0, 6, api.OK)
	takes(t, f, 1, 7, api.OK)
	goesOn(t, p, fails(1, 2), loads(1, 2))
	ends(t, p, loads(2, 2), api.Fed{}, api.ErrNone)
	goesOn(t, q, loads(2, 2), loads(1, 2))
	ends(t, q, loads(2, 2), api.Fed{}, api.ErrNone)
}

// A turn that is a lap ahead is as gone as one that is just taken.
func TestLapAhead(t *testing.T) { // the words
	f := made(t, 2)
	p, q := begin(t, f, put(5)), begin(t, f, take)
	goesOn(t, p, loads(0, 0))
	goesOn(t, q, loads(1, 0))
	for place := range uint64(5) {
		puts(t, f, place, place, api.OK)
		takes(t, f, place, place, api.OK)
	}
	goesOn(t, p, loads(2, 6), loads(0, 5), loads(4, 5), claims(0, 5), stores(5, 3, 5))
	goesOn(t, q, loads(2, 6), loads(1, 5))
	ends(t, q, loads(4, 5), api.Fed{}, api.ErrNone)
	ends(t, p, stores(4, 5, 6), api.Fed{At: 5, X: 5}, api.OK)
}

func TestLenBetweenItsLooks(t *testing.T) { // the words
	f := made(t, 2)
	puts(t, f, 0, 0, api.OK)
	p := begin(t, f, look)
	goesOn(t, p, loads(1, 0))
	for place := range uint64(4) {
		puts(t, f, 9, place+1, api.OK)
		takes(t, f, place, 9*min(place, 1), api.OK)
	}
	ends(t, p, loads(0, 5), api.Fed{X: 2}, api.OK) // no more than the size, though five were put
	p = begin(t, f, look)
	goesOn(t, p, loads(1, 4))
	takes(t, f, 4, 9, api.OK)
	ends(t, p, loads(0, 5), api.Fed{X: 1}, api.OK)
}

// shadow is an operation on words of its own, as the document tells its actions.
type shadow struct {
	op     api.FeedOp
	size   uint64
	done   int // how many of its actions, since it began anew
	place  uint64
	value  uint64
	over   bool
	answer api.Fed
	why    api.Errno
}

func (s *shadow) end(answer api.Fed, why api.Errno) {
	s.over, s.answer, s.why = true, answer, why
}

func (s *shadow) step(words []uint64) api.Did {
	s.done++
	if s.op.Kind == api.FeedLen {
		return s.look(words)
	}
	end, ready, why := 0, s.place, api.ErrFull
	if s.op.Kind == api.FeedTake {
		end, ready, why = 1, s.place+1, api.ErrNone
	}
	turn := 2 + 2*int(s.place%s.size)
	switch s.done {
	case 1:
		s.place = words[end]
		return loads(end, s.place)
	case 2:
		if words[turn] < ready {
			s.end(api.Fed{}, why)
		}
		if words[turn] > ready {
			s.done = 0
		}
		return loads(turn, words[turn])
	case 3:
		if words[end] != s.place {
			s.done = 0
			return fails(end, words[end])
		}
		words[end]++
		return claims(end, s.place)
	case 4:
		return s.move(words, turn+1)
	}
	saw := words[turn]
	words[turn] = s.place + 1
	if s.op.Kind == api.FeedTake {
		words[turn] = s.place + s.size
	}
	s.end(api.Fed{At: s.place, X: s.value}, api.OK)
	return stores(turn, saw, words[turn])
}

// move is the fourth action, on the slot's value.
func (s *shadow) move(words []uint64, cell int) api.Did {
	saw := words[cell]
	if s.op.Kind == api.FeedTake {
		s.value = saw
		return loads(cell, saw)
	}
	s.value = s.op.X
	words[cell] = s.value
	return stores(cell, saw, s.value)
}

func (s *shadow) look(words []uint64) api.Did {
	if s.done == 1 {
		s.place = words[1]
		return loads(1, s.place)
	}
	s.end(api.Fed{X: min(words[0]-s.place, s.size)}, api.OK)
	return loads(0, words[0])
}

// worker does operations, one behind another.
type worker struct {
	todo  []api.FeedOp
	p     *feed.Pending
	s     *shadow
	alone bool   // no other operation was under way since its beginning
	were  uint64 // how many there were at its beginning
}

// course is workers on a feed, by a schedule.
type course struct {
	t       *testing.T
	feed    *feed.Feed
	size    uint64
	words   []uint64
	workers []*worker
	claimed []uint64          // the values of those who put, by their places
	put     map[uint64]bool   // the places that were answered to who put
	taken   map[uint64]uint64 // what was answered to who took
	begun   uint64            // how many takes have done their ActCas
	count   map[string]int
}

// newCourse has a feed in which so many are: 100, 101 and so on.
func newCourse(t *testing.T, size, filled int, todo [][]api.FeedOp, count map[string]int) *course {
	c := &course{t: t, feed: made(t, size), size: uint64(size), put: map[uint64]bool{}, taken: map[uint64]uint64{}, count: count}
	c.words = make([]uint64, 2+2*size)
	for i := range size {
		c.words[2+2*i] = uint64(i)
	}
	for _, l := range todo {
		c.workers = append(c.workers, &worker{todo: l})
	}
	for i := range filled {
		w := &worker{todo: []api.FeedOp{put(uint64(100 + i))}}
		c.workers = append(c.workers, w)
		for w.p != nil || len(w.todo) > 0 {
			c.step(len(c.workers) - 1)
		}
	}
	return c
}

func (c *course) left() []int {
	var l []int
	for n, w := range c.workers {
		if w.p != nil || len(w.todo) > 0 {
			l = append(l, n)
		}
	}
	return l
}

func (c *course) next(w *worker) {
	op := w.todo[0]
	w.todo = w.todo[1:]
	w.p, w.s, w.alone = begin(c.t, c.feed, op), &shadow{op: op, size: c.size}, true
	w.were = c.now()
	for _, other := range c.workers {
		if other != w && other.p != nil {
			w.alone, other.alone = false, false
		}
	}
}

// step does a worker's next action, and holds it against the words and what follows from them.
func (c *course) step(n int) {
	w := c.workers[n]
	if w.p == nil {
		c.next(w)
	}
	want := w.s.step(c.words)
	got, ended := w.p.Step()
	answer, why := w.p.Answer()
	if got != want || ended != w.s.over || w.p.Done() != ended || answer != w.s.answer || why != w.s.why {
		c.t.Fatalf("%v: %v, %v, %v, error %d; want %v, %v, %v, error %d", w.s.op, got, ended, answer, why, want, w.s.over, w.s.answer, w.s.why)
	}
	switch {
	case got.Kind == api.ActCas && !got.Ok:
		c.count["not done"]++
	case got.Kind == api.ActCas && got.Cell == 0:
		c.claimed = append(c.claimed, w.s.op.X)
	case got.Kind == api.ActCas:
		c.begun++
	case got.Kind == api.ActLoad && w.s.done == 0:
		c.count["gone"]++
	}
	if ended {
		c.ended(w, answer, why)
		w.p = nil
	}
	if n := uint64(len(c.put)); n > c.begun+c.size { // 21.6
		c.t.Fatalf("%d were put, %d taken, of a feed of %d", n, c.begun, c.size)
	}
}

func (c *course) ended(w *worker, got api.Fed, why api.Errno) {
	kind := w.s.op.Kind
	switch {
	case kind == api.FeedLen:
		if got.X > c.size || w.alone && got.X != w.were {
			c.t.Fatalf("there are %d, of a feed of %d that has %d", got.X, c.size, w.were)
		}
		return
	case w.alone && (why == api.OK) != c.may(kind, w.were): // 21.7
		c.t.Fatalf("%v alone, where %d are: error %d", w.s.op, w.were, why)
	case why != api.OK:
		if c.may(kind, c.now()) { // but somebody is still at it
			c.count["in the way"]++
		}
		c.count["refused"]++
		return
	case got.At >= uint64(len(c.claimed)) || got.X != c.claimed[got.At]: // 21.5
		c.t.Fatalf("%v answers %v, of %v", w.s.op, got, c.claimed)
	}
	_, twice := c.taken[got.At]
	if kind == api.FeedPut {
		twice = c.put[got.At]
		c.put[got.At] = true
	} else {
		c.taken[got.At] = got.X
	}
	if twice { // 21.5
		c.t.Fatalf("%v answers the place %d, that another one was answered", w.s.op, got.At)
	}
}

// now is how many are in the feed: those that are still being put too, and none that is still being taken.
func (c *course) now() uint64 {
	return uint64(len(c.claimed)) - c.begun
}

// may tells whether an operation that is alone ends well, where so many are.
func (c *course) may(kind api.FeedKind, n uint64) bool {
	if kind == api.FeedPut {
		return n < c.size
	}
	return n > 0
}

func (c *course) end() { // 21.5, 21.7
	put, taken := uint64(len(c.put)), uint64(len(c.taken))
	if put != uint64(len(c.claimed)) || taken != c.begun || taken > put || put > taken+c.size {
		c.t.Fatalf("put %d, taken %d; begun %d, %d", put, taken, len(c.claimed), c.begun)
	}
	for place := range put {
		if x, is := c.taken[place]; !c.put[place] || is != (place < taken) || is && x != c.claimed[place] {
			c.t.Fatalf("the place %d: %v, %v %d", place, c.put[place], is, x)
		}
	}
	has(c.t, c.feed, put-taken)
	for place := taken; place < put; place++ {
		takes(c.t, c.feed, place, c.claimed[place], api.OK)
	}
	takes(c.t, c.feed, 0, 0, api.ErrNone)
	for i := range c.size {
		puts(c.t, c.feed, i, put+i, api.OK)
	}
	puts(c.t, c.feed, 9, 0, api.ErrFull)
	c.count["schedules"]++
}

// every goes through all schedules by which the workers' operations end.
func every(t *testing.T, size, filled int, todo [][]api.FeedOp, schedule []int, count map[string]int) {
	c := newCourse(t, size, filled, todo, count)
	for _, n := range schedule {
		c.step(n)
	}
	left := c.left()
	if len(left) == 0 {
		c.end()
	}
	for _, n := range left {
		every(t, size, filled, todo, append(slices.Clip(schedule), n), count)
	}
}

func TestEverySchedule(t *testing.T) { // 21.5 to 21.7
	for _, x := range []struct {
		name         string
		size, filled int
		todo         [][]api.FeedOp
		wants        []string
	}{
		{"two put", 2, 0, [][]api.FeedOp{{put(5)}, {put(6)}}, []string{"not done", "gone"}},
		{"two put where one has room", 3, 2, [][]api.FeedOp{{put(5)}, {put(5)}}, []string{"not done", "gone", "refused"}},
		{"two take", 2, 2, [][]api.FeedOp{{take}, {take}}, []string{"not done", "gone"}},
		{"two take where one is", 2, 1, [][]api.FeedOp{{take}, {take}}, []string{"not done", "gone", "refused"}},
		{"one puts, one takes, one looks", 2, 0, [][]api.FeedOp{{put(5)}, {take}, {look}}, []string{"refused"}},
		{"one puts to a full one, one takes, one looks", 2, 2, [][]api.FeedOp{{put(5)}, {take}, {look}}, []string{"refused"}},
		{"two put to a full one, one takes", 2, 2, [][]api.FeedOp{{put(5)}, {put(6)}, {take}}, []string{"not done", "gone", "refused", "in the way"}},
		{"two take where nothing is, one puts", 2, 0, [][]api.FeedOp{{take}, {take}, {put(5)}}, []string{"not done", "gone", "refused", "in the way"}},
		{"one puts twice, one takes", 2, 0, [][]api.FeedOp{{put(5), put(6)}, {take}}, []string{"refused", "in the way"}},
		{"one takes twice, one puts", 2, 1, [][]api.FeedOp{{take, take}, {put(5)}}, []string{"refused"}},
	} {
		t.Run(x.name, func(t *testing.T) {
			count := map[string]int{}
			every(t, x.size, x.filled, x.todo, nil, count)
			for _, what := range append(x.wants, "schedules") {
				if count[what] == 0 {
					t.Error("never came:", what)
				}
			}
		})
	}
}

func TestAnySchedule(t *testing.T) { // 21.1, 21.5 to 21.7
	r := rand.New(rand.NewSource(7))
	count := map[string]int{}
	for range 3000 {
		size := 2 + r.Intn(4)
		todo := make([][]api.FeedOp, 1+r.Intn(7))
		for n := range todo {
			for range 1 + r.Intn(6) {
				op := api.FeedOp{Kind: api.FeedKind(1 + r.Intn(3))}
				if op.Kind == api.FeedPut {
					op.X = uint64(r.Intn(50))
				}
				todo[n] = append(todo[n], op)
			}
		}
		c := newCourse(t, size, r.Intn(size+1), todo, count)
		longest := 1 + r.Intn(8)
		for left := c.left(); len(left) > 0; left = c.left() {
			n := left[r.Intn(len(left))]
			for range 1 + r.Intn(longest) {
				if slices.Contains(c.left(), n) {
					c.step(n)
				}
			}
		}
		c.end()
	}
	for _, what := range []string{"not done", "gone", "refused", "in the way"} {
		if count[what] == 0 {
			t.Error("never came:", what)
		}
	}
}

func TestStepsByMany(t *testing.T) { // 21.1, 21.5, 21.6
	for _, size := range []int{2, 5} {
		f := made(t, size)
		do := func(op api.FeedOp) (api.Fed, api.Errno) {
			p, _ := f.Start(op)
			for ended := false; !ended; {
				_, ended = p.Step()
			}
			return p.Answer()
		}
		byMany(t, f, size, 4, 1000, func(x uint64) (api.Fed, api.Errno) { return do(put(x)) }, func() (api.Fed, api.Errno) { return do(take) })
	}
}
