package sem_test

import (
	"math/rand"
	"slices"
	"testing"

	"abacus/api"
	"abacus/sem"
)

func begin(t *testing.T, s *sem.Sem, k api.SemKind) *sem.Pending {
	t.Helper()
	p, why := s.Start(k)
	if p == nil || why != api.OK {
		t.Fatalf("Start(%d): error %d", k, why)
	}
	return p
}

func TestStart(t *testing.T) { // 7.1
	s := made(t, 2)
	tries(t, s, 0, api.OK)
	for _, k := range []api.SemKind{api.SemNone, api.SemCount, api.SemCount + 1, 255} {
		if p, why := s.Start(k); p != nil || why != api.ErrAct {
			t.Errorf("Start(%d): error %d", k, why)
		}
	}
	for _, k := range []api.SemKind{api.SemEnter, api.SemTry, api.SemLeave, api.SemInside} {
		p := begin(t, s, k)
		if got, why := p.Answer(); got != 0 || why != api.OK || p.Done() {
			t.Errorf("kind %d, of which nothing is done yet: %d, error %d, %v", k, got, why, p.Done())
		}
	}
	insides(t, s, 1)
	tries(t, s, 1, api.OK)
}

func loads(cell int, saw uint64) api.Did {
	return api.Did{Kind: api.ActLoad, Cell: cell, Saw: saw, Put: saw, Ok: true}
}

func draws(saw uint64) api.Did {
	return api.Did{Kind: api.ActAdd, Cell: 0, Saw: saw, Put: saw + 1, Ok: true}
}

func puts(cell int, saw uint64) api.Did {
	return api.Did{Kind: api.ActCas, Cell: cell, Saw: saw, Put: saw + 1, Ok: true}
}

func fails(cell int, saw uint64) api.Did {
	return api.Did{Kind: api.ActCas, Cell: cell, Saw: saw, Put: saw}
}

// goesOn holds the next steps of an operation against what is wanted; none of them is to end it.
func goesOn(t *testing.T, p *sem.Pending, want ...api.Did) {
	t.Helper()
	for i, d := range want {
		if got, ended := p.Step(); got != d || ended || p.Done() {
			t.Errorf("step %d: %v, %v, want %v", i, got, ended, d)
		}
		if got, why := p.Answer(); got != 0 || why != api.OK {
			t.Errorf("behind step %d: %d, error %d", i, got, why)
		}
	}
}

// ends holds the last step of an operation, and what it answers, against what is wanted.
func ends(t *testing.T, p *sem.Pending, d api.Did, want uint64, err api.Errno) {
	t.Helper()
	if got, ended := p.Step(); got != d || !ended {
		t.Errorf("the last step: %v, %v, want %v", got, ended, d)
	}
	for range 2 {
		if got, why := p.Answer(); got != want || why != err {
			t.Errorf("Answer: %d, error %d, want %d, error %d", got, why, want, err)
		}
		if got, ended := p.Step(); got != (api.Did{}) || !ended || !p.Done() {
			t.Errorf("at its end: %v, %v, %v", got, ended, p.Done())
		}
	}
}

func TestStepsAlone(t *testing.T) { // 7.1, and the words
	s := made(t, 2)
	p := begin(t, s, api.SemInside)
	goesOn(t, p, loads(1, 0))
	ends(t, p, loads(0, 0), 0, api.OK)

	p = begin(t, s, api.SemLeave)
	goesOn(t, p, loads(1, 0))
	ends(t, p, loads(0, 0), 0, api.ErrFree)

	p = begin(t, s, api.SemEnter)
	goesOn(t, p, draws(0))
	ends(t, p, loads(1, 0), 0, api.OK)

	p = begin(t, s, api.SemTry)
	goesOn(t, p, loads(1, 0), loads(0, 1))
	ends(t, p, puts(0, 1), 1, api.OK)

	p = begin(t, s, api.SemTry)
	goesOn(t, p, loads(1, 0))
	ends(t, p, loads(0, 2), 0, api.ErrFull)

	p = begin(t, s, api.SemEnter)
	goesOn(t, p, draws(2), loads(1, 0), loads(1, 0), loads(1, 0))

	inside := begin(t, s, api.SemInside)
	goesOn(t, inside, loads(1, 0))
	ends(t, inside, loads(0, 3), 2, api.OK)

	leave := begin(t, s, api.SemLeave)
	goesOn(t, leave, loads(1, 0), loads(0, 3))
	ends(t, leave, puts(1, 0), 1, api.OK)
	ends(t, p, loads(1, 1), 2, api.OK)

	leave = begin(t, s, api.SemLeave)
	goesOn(t, leave, loads(1, 1), loads(0, 3))
	ends(t, leave, puts(1, 1), 2, api.OK)

	inside = begin(t, s, api.SemInside)
	goesOn(t, inside, loads(1, 2))
	ends(t, inside, loads(0, 3), 1, api.OK)
}

func TestExampleOfThree(t *testing.T) { // example 2
	s := made(t, 1)
	a, b, c := begin(t, s, api.SemEnter), begin(t, s, api.SemEnter), begin(t, s, api.SemEnter)
	goesOn(t, a, draws(0))
	ends(t, a, loads(1, 0), 0, api.OK)
	goesOn(t, b, draws(1), loads(1, 0))
	goesOn(t, c, draws(2), loads(1, 0))
	leave := begin(t, s, api.SemLeave)
	goesOn(t, leave, loads(1, 0), loads(0, 3))
	ends(t, leave, puts(1, 0), 1, api.OK)
	goesOn(t, c, loads(1, 1))
	ends(t, b, loads(1, 1), 1, api.OK)
	goesOn(t, c, loads(1, 1))
}

// Behind an ActCas that is not done both cells are looked at anew: the place may be gone by now, or nobody inside.
func TestCasNotDone(t *testing.T) { // 7.1, and the words
	s := made(t, 2)
	p := begin(t, s, api.SemTry)
	goesOn(t, p, loads(1, 0), loads(0, 0))
	tries(t, s, 0, api.OK)
	goesOn(t, p, fails(0, 1), loads(1, 0), loads(0, 1))
	tries(t, s, 1, api.OK)
	goesOn(t, p, fails(0, 2), loads(1, 0))
	ends(t, p, loads(0, 2), 0, api.ErrFull)

	p = begin(t, s, api.SemLeave)
	goesOn(t, p, loads(1, 0), loads(0, 2))
	leaves(t, s, api.OK)
	goesOn(t, p, fails(1, 1), loads(1, 1), loads(0, 2))
	leaves(t, s, api.OK)
	goesOn(t, p, fails(1, 2), loads(1, 2))
	ends(t, p, loads(0, 2), 0, api.ErrFree)

	p = begin(t, s, api.SemTry)
	goesOn(t, p, loads(1, 2), loads(0, 2))
	tries(t, s, 2, api.OK)
	leaves(t, s, api.OK)
	goesOn(t, p, fails(0, 3), loads(1, 3), loads(0, 3))
	ends(t, p, puts(0, 3), 3, api.OK)
	insides(t, s, 1)
}

// What comes between the two looks: the first one holds for what was given back, the second one for what was drawn.
func TestBetweenTheLooks(t *testing.T) { // 7.1, and the words
	s := made(t, 2)
	inside := begin(t, s, api.SemInside)
	try := begin(t, s, api.SemTry)
	leave := begin(t, s, api.SemLeave)
	for _, p := range []*sem.Pending{inside, try, leave} {
		goesOn(t, p, loads(1, 0))
	}
	for ticket := range uint64(5) {
		tries(t, s, ticket, api.OK)
		leaves(t, s, api.OK)
	}
	ends(t, inside, loads(0, 5), 2, api.OK) // no more than places, though five were drawn meanwhile
	ends(t, try, loads(0, 5), 0, api.ErrFull)
	goesOn(t, leave, loads(0, 5), fails(1, 5), loads(1, 5))
	ends(t, leave, loads(0, 5), 0, api.ErrFree)
}

// shadow is an operation on words of its own, as the document tells its actions.
type shadow struct {
	kind   api.SemKind
	places uint64
	place  int // how many of its actions were done, since it began anew
	saw    [2]uint64
	over   bool
	answer uint64
	why    api.Errno
}

func (s *shadow) end(answer uint64, why api.Errno) {
	s.over, s.answer, s.why = true, answer, why
}

func (s *shadow) step(words *[2]uint64) api.Did {
	s.place++
	if s.kind == api.SemEnter {
		return s.enter(words)
	}
	switch s.place {
	case 1:
		s.saw[1] = words[1]
		return loads(1, words[1])
	case 2:
		s.saw[0] = words[0]
		s.look()
		return loads(0, words[0])
	}
	cell := 0
	if s.kind == api.SemLeave {
		cell = 1
	}
	if words[cell] != s.saw[cell] {
		s.place = 0
		return fails(cell, words[cell])
	}
	words[cell]++
	s.end(s.saw[0], api.OK)
	if cell == 1 {
		s.answer = words[1]
	}
	return puts(cell, s.saw[cell])
}

func (s *shadow) enter(words *[2]uint64) api.Did {
	if s.place == 1 {
		s.saw[0] = words[0]
		words[0]++
		return draws(s.saw[0])
	}
	if s.saw[0] < s.places+words[1] {
		s.end(s.saw[0], api.OK)
	}
	return loads(1, words[1])
}

func (s *shadow) look() {
	drew, gave := s.saw[0], s.saw[1]
	switch {
	case s.kind == api.SemTry && drew >= s.places+gave:
		s.end(0, api.ErrFull)
	case s.kind == api.SemLeave && gave >= drew:
		s.end(0, api.ErrFree)
	case s.kind == api.SemInside && drew < s.places+gave:
		s.end(drew-gave, api.OK)
	case s.kind == api.SemInside:
		s.end(s.places, api.OK)
	}
}

// guest does kinds of operations, one behind another; it leaves if it is inside.
type guest struct {
	todo   []api.SemKind
	p      *sem.Pending
	s      *shadow
	inside bool
	drew   bool   // it has drawn a ticket, and waits
	looked uint64 // what was given back when it looked last, and 1; 0: it has not looked
	must   bool   // its next step is to end
}

// hall is guests of a semaphore, by a schedule.
type hall struct {
	t      *testing.T
	sem    *sem.Sem
	places uint64
	words  [2]uint64
	guests []*guest
	count  map[string]int
}

func newHall(t *testing.T, places int, todo [][]api.SemKind, count map[string]int) *hall {
	h := &hall{t: t, sem: made(t, places), places: uint64(places), count: count}
	for _, l := range todo {
		h.guests = append(h.guests, &guest{todo: l})
	}
	return h
}

// ready tells whether a step of a guest may do anything: it has something to do, and does not just look once more at what it saw.
func (h *hall) ready(g *guest) bool {
	if g.p == nil {
		return len(g.todo) > 0
	}
	return !g.drew || g.looked != h.words[1]+1
}

func (h *hall) next(g *guest) {
	kind := g.todo[0]
	g.todo = g.todo[1:]
	g.p, g.s = begin(h.t, h.sem, kind), &shadow{kind: kind, places: h.places}
	if kind == api.SemLeave {
		g.inside = false
	}
}

// step does a guest's next action, and holds it against the words and what follows from them.
func (h *hall) step(n int) {
	g := h.guests[n]
	if g.p == nil {
		h.next(g)
	}
	want := g.s.step(&h.words)
	got, ended := g.p.Step()
	answer, why := g.p.Answer()
	if got != want || ended != g.s.over || g.p.Done() != ended || answer != g.s.answer || why != g.s.why {
		h.t.Fatalf("kind %d: %v, %v, %d, error %d; want %v, %v, %d, error %d", g.s.kind, got, ended, answer, why, want, g.s.over, g.s.answer, g.s.why)
	}
	if g.must && !ended { // 7.6
		h.t.Fatalf("ticket %d waits, though a later one does not", g.s.saw[0])
	}
	g.must = false
	if g.s.kind == api.SemEnter {
		g.drew, g.looked = !ended, 0
		if g.s.place > 1 {
			g.looked = h.words[1] + 1
		}
	}
	if !want.Ok {
		h.count["failed"]++
	}
	if ended {
		h.ended(g)
	}
}

func (h *hall) ended(g *guest) {
	kind, ticket := g.s.kind, g.s.saw[0]
	switch {
	case kind == api.SemEnter, kind == api.SemTry && g.s.why == api.OK:
		g.inside = true
	case kind == api.SemTry && len(g.todo) > 0:
		g.todo = g.todo[1:] // who was not let in does not leave
		h.count["full"]++
	case kind == api.SemLeave && g.s.why != api.OK:
		h.t.Fatal("one who was inside could not leave: error", g.s.why)
	}
	g.p = nil
	h.inside()
	if kind == api.SemEnter {
		h.inOrder(ticket)
	}
}

func (h *hall) inside() { // 7.5
	n := uint64(0)
	for _, g := range h.guests {
		if g.inside {
			n++
		}
	}
	if n > h.places {
		h.t.Fatalf("%d are inside, of %d places", n, h.places)
	}
}

func (h *hall) inOrder(ticket uint64) { // 7.6
	for _, g := range h.guests {
		if g.drew && g.s.saw[0] < ticket {
			g.must = true
			h.count["overtook"]++
		}
	}
}

func (h *hall) left() []int {
	var l []int
	for n, g := range h.guests {
		if h.ready(g) {
			l = append(l, n)
		}
	}
	return l
}

func (h *hall) end() { // 7.7
	for _, g := range h.guests {
		if g.p != nil || len(g.todo) > 0 {
			h.t.Fatal("somebody waits for ever")
		}
	}
	for _, g := range h.guests {
		if g.inside {
			g.inside = false
			h.words[1]++
			leaves(h.t, h.sem, api.OK)
		}
	}
	insides(h.t, h.sem, 0)
	if h.words[0] != h.words[1] {
		h.t.Fatal("drawn, and given back:", h.words)
	}
	for range 2 { // the first one changes nothing
		p := begin(h.t, h.sem, api.SemLeave)
		goesOn(h.t, p, loads(1, h.words[1]))
		ends(h.t, p, loads(0, h.words[0]), 0, api.ErrFree)
	}
	h.count["schedules"]++
}

// every goes through all schedules by which the guests' operations end, but for looks that see what was seen ahead of them.
func every(t *testing.T, places int, todo [][]api.SemKind, schedule []int, count map[string]int) {
	h := newHall(t, places, todo, count)
	for _, n := range schedule {
		h.step(n)
	}
	left := h.left()
	if len(left) == 0 {
		h.end()
	}
	for _, n := range left {
		every(t, places, todo, append(slices.Clip(schedule), n), count)
	}
}

func TestEverySchedule(t *testing.T) { // 7.5 to 7.7
	enter, try, inside := []api.SemKind{api.SemEnter, api.SemLeave}, []api.SemKind{api.SemTry, api.SemLeave}, []api.SemKind{api.SemInside}
	for _, x := range []struct {
		name   string
		places int
		todo   [][]api.SemKind
		wants  []string
	}{
		{"two enter one place, one of them twice", 1, [][]api.SemKind{slices.Concat(enter, enter), enter}, nil},
		{"three enter one place", 1, [][]api.SemKind{enter, enter, enter}, nil},
		{"one enters, one tries, one looks", 1, [][]api.SemKind{enter, try, inside}, []string{"full", "failed"}},
		{"two try, one of them twice", 1, [][]api.SemKind{slices.Concat(try, try), try}, []string{"full", "failed"}},
		{"two leave at one time", 2, [][]api.SemKind{enter, try}, []string{"failed"}},
		{"three enter two places", 2, [][]api.SemKind{enter, enter, enter[:1]}, []string{"failed", "overtook"}},
	} {
		t.Run(x.name, func(t *testing.T) {
			count := map[string]int{}
			every(t, x.places, x.todo, nil, count)
			for _, what := range append(x.wants, "schedules") {
				if count[what] == 0 {
					t.Error("never came:", what)
				}
			}
		})
	}
}

func TestAnySchedule(t *testing.T) { // 7.1, 7.5 to 7.7
	r := rand.New(rand.NewSource(7))
	count := map[string]int{}
	for range 4000 {
		todo := make([][]api.SemKind, 1+r.Intn(7))
		for n := range todo {
			for range 1 + r.Intn(5) {
				switch r.Intn(5) {
				case 0:
					todo[n] = append(todo[n], api.SemInside)
				case 1, 2:
					todo[n] = append(todo[n], api.SemTry, api.SemLeave)
				default:
					todo[n] = append(todo[n], api.SemEnter, api.SemLeave)
				}
			}
		}
		h := newHall(t, 1+r.Intn(4), todo, count)
		for left := h.left(); len(left) > 0; left = h.left() {
			n := left[r.Intn(len(left))]
			if g := h.guests[r.Intn(len(h.guests))]; g.drew { // one who waits may look as often as it likes
				n = slices.Index(h.guests, g)
			}
			h.step(n)
		}
		h.end()
	}
	for _, what := range []string{"failed", "full", "overtook"} {
		if count[what] == 0 {
			t.Error("never came:", what)
		}
	}
}

// Who draws first is served first, however long it does not look.
func TestInOrder(t *testing.T) { // 7.6
	s := made(t, 2)
	var l []*sem.Pending
	for n := range uint64(6) {
		l = append(l, begin(t, s, api.SemEnter))
		goesOn(t, l[n], draws(n))
	}
	ends(t, l[1], loads(1, 0), 1, api.OK)
	goesOn(t, l[3], loads(1, 0))
	goesOn(t, l[2], loads(1, 0))
	leaves(t, s, api.OK)
	leaves(t, s, api.OK)
	ends(t, l[3], loads(1, 2), 3, api.OK)
	goesOn(t, l[5], loads(1, 2))
	goesOn(t, l[4], loads(1, 2))
	ends(t, l[0], loads(1, 2), 0, api.OK)
	ends(t, l[2], loads(1, 2), 2, api.OK)
	insides(t, s, 2)
}
