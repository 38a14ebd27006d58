package snap_test

import (
	"math"
	"math/rand"
	"slices"
	"sync"
	"testing"

	"abacus/api"
	"abacus/snap"
)

func begin(t *testing.T, g *snap.Regs, op api.SnapOp) *snap.Pending {
	t.Helper()
	p, why := g.Start(op)
	if p == nil || why != api.OK {
		t.Fatalf("Start(%v): error %d", op, why)
	}
	return p
}

func isZero(v api.View) bool {
	return alike(v, api.View{})
}

func alike(a, b api.View) bool {
	return a.Clean == b.Clean && a.Collects == b.Collects && slices.Equal(a.Regs, b.Regs)
}

// word is the word of a register.
func word(number, value uint32) uint64 {
	return uint64(number)*(1<<32) + uint64(value)
}

func loads(cell int, saw uint64) api.Did {
	return api.Did{Kind: api.ActLoad, Cell: cell, Saw: saw, Put: saw, Ok: true}
}

// swaps is an ActCas that was done.
func swaps(cell int, saw, put uint64) api.Did {
	return api.Did{Kind: api.ActCas, Cell: cell, Saw: saw, Put: put, Ok: true}
}

func fails(cell int, saw uint64) api.Did {
	return api.Did{Kind: api.ActCas, Cell: cell, Saw: saw, Put: saw}
}

// goesOn holds the next steps of an operation against what is wanted; none of them is to end it.
func goesOn(t *testing.T, p *snap.Pending, want ...api.Did) {
	t.Helper()
	for i, d := range want {
		if got, ended := p.Step(); got != d || ended || p.Done() || !isZero(p.Answer()) {
			t.Errorf("step %d: %v, %v, %v, %v, want %v", i, got, ended, p.Done(), p.Answer(), d)
		}
	}
}

// ends holds the last step of an operation, and what it answers, against what is wanted.
func ends(t *testing.T, p *snap.Pending, d api.Did, want api.View) {
	t.Helper()
	if got, ended := p.Step(); got != d || !ended {
		t.Errorf("the last step: %v, %v, want %v", got, ended, d)
	}
	for range 2 {
		if got := p.Answer(); !alike(got, want) {
			t.Errorf("Answer: %v, want %v", got, want)
		}
		if got, ended := p.Step(); got != (api.Did{}) || !ended || !p.Done() {
			t.Errorf("at its end: %v, %v, %v", got, ended, p.Done())
		}
	}
}

// one is what an operation on one register answers.
func one(number, value uint32) api.View {
	return api.View{Regs: []api.Reg{{Number: number, Value: value}}}
}

func TestStart(t *testing.T) { // 14.3
	g := made(t, 3)
	right := []api.SnapOp{
		{Kind: api.SnapPut}, {Kind: api.SnapPut, Reg: 2, Value: math.MaxUint32}, {Kind: api.SnapGet}, {Kind: api.SnapGet, Reg: 2},
		{Kind: api.SnapScan, Tries: 1}, {Kind: api.SnapScan, Tries: api.MaxTries},
	}
	for _, op := range right {
		if p := begin(t, g, op); p.Done() || !isZero(p.Answer()) {
			t.Errorf("%v, of which nothing is done yet: %v, %v", op, p.Done(), p.Answer())
		}
	}
	wrong := []api.SnapOp{
		{}, {Tries: 1}, {Kind: api.SnapCount}, {Kind: api.SnapCount, Tries: 2}, {Kind: 255, Value: 1},
		{Kind: api.SnapPut, Reg: 3}, {Kind: api.SnapPut, Reg: -1}, {Kind: api.SnapPut, Tries: 1}, {Kind: api.SnapPut, Tries: -1}, {Kind: api.SnapPut, Reg: math.MaxInt},
		{Kind: api.SnapGet, Reg: 3}, {Kind: api.SnapGet, Reg: -1}, {Kind: api.SnapGet, Value: 1}, {Kind: api.SnapGet, Tries: 1}, {Kind: api.SnapGet, Reg: math.MinInt},
		{Kind: api.SnapScan}, {Kind: api.SnapScan, Tries: -1}, {Kind: api.SnapScan, Tries: api.MaxTries + 1}, {Kind: api.SnapScan, Tries: math.MaxInt},
		{Kind: api.SnapScan, Reg: 1, Tries: 2}, {Kind: api.SnapScan, Reg: -1, Tries: 2}, {Kind: api.SnapScan, Value: 1, Tries: 2},
	}
	for _, op := range wrong {
		if p, why := g.Start(op); p != nil || why != api.ErrRange {
			t.Errorf("Start(%v): error %d", op, why)
		}
	}
	if got := g.All(); !slices.Equal(got, make([]api.Reg, 3)) {
		t.Error("Start does something:", got)
	}
}

func TestStepsAlone(t *testing.T) { // 14.3, 14.8
	g := made(t, 2)
	p := begin(t, g, api.SnapOp{Kind: api.SnapGet, Reg: 1})
	ends(t, p, loads(1, 0), one(0, 0))

	p = begin(t, g, api.SnapOp{Kind: api.SnapPut, Reg: 1, Value: 5})
	goesOn(t, p, loads(1, 0))
	ends(t, p, swaps(1, 0, word(1, 5)), one(1, 5))

	p = begin(t, g, api.SnapOp{Kind: api.SnapPut, Reg: 1, Value: 5}) // the same value, another number
	goesOn(t, p, loads(1, word(1, 5)))
	ends(t, p, swaps(1, word(1, 5), word(2, 5)), one(2, 5))

	p = begin(t, g, api.SnapOp{Kind: api.SnapPut, Value: math.MaxUint32})
	goesOn(t, p, loads(0, 0))
	ends(t, p, swaps(0, 0, word(1, math.MaxUint32)), one(1, math.MaxUint32))

	p = begin(t, g, api.SnapOp{Kind: api.SnapGet})
	ends(t, p, loads(0, word(1, math.MaxUint32)), one(1, math.MaxUint32))

	regs := []api.Reg{{Number: 1, Value: math.MaxUint32}, {Number: 2, Value: 5}}
	zero, first := loads(0, word(1, math.MaxUint32)), loads(1, word(2, 5))
	p = begin(t, g, api.SnapOp{Kind: api.SnapScan, Tries: 1})
	goesOn(t, p, zero)
	ends(t, p, first, api.View{Regs: regs, Collects: 1})
	for _, tries := range []int{2, 3, api.MaxTries} {
		p = begin(t, g, api.SnapOp{Kind: api.SnapScan, Tries: tries})
		goesOn(t, p, zero, first, zero)
		ends(t, p, first, api.View{Regs: regs, Clean: true, Collects: 2})
	}
}

func TestScanOfOne(t *testing.T) { // 14.3
	g := made(t, 1)
	p := begin(t, g, api.SnapOp{Kind: api.SnapScan, Tries: 1})
	ends(t, p, loads(0, 0), api.View{Regs: []api.Reg{{}}, Collects: 1})
	p = begin(t, g, api.SnapOp{Kind: api.SnapScan, Tries: 2})
	goesOn(t, p, loads(0, 0))
	ends(t, p, loads(0, 0), api.View{Regs: []api.Reg{{}}, Clean: true, Collects: 2})
}

func TestExampleOfScan(t *testing.T) { // 14.3, 14.6, example 2
	g := made(t, 2)
	p := begin(t, g, api.SnapOp{Kind: api.SnapScan, Tries: 3})
	goesOn(t, p, loads(0, 0), loads(1, 0), loads(0, 0))
	puts(t, g, 0, 9, api.Reg{Number: 1, Value: 9}, api.OK)
	ends(t, p, loads(1, 0), api.View{Regs: make([]api.Reg, 2), Clean: true, Collects: 2})

	g = made(t, 2)
	p = begin(t, g, api.SnapOp{Kind: api.SnapScan, Tries: 3})
	goesOn(t, p, loads(0, 0), loads(1, 0))
	puts(t, g, 0, 9, api.Reg{Number: 1, Value: 9}, api.OK)
	goesOn(t, p, loads(0, word(1, 9)), loads(1, 0), loads(0, word(1, 9)))
	ends(t, p, loads(1, 0), api.View{Regs: []api.Reg{{Number: 1, Value: 9}, {}}, Clean: true, Collects: 3})
}

// What is put back as it was is not the same word: its number is another one.
func TestScanSeesWhatWasPutBack(t *testing.T) { // 14.6
	g := made(t, 2)
	p := begin(t, g, api.SnapOp{Kind: api.SnapScan, Tries: 2})
	goesOn(t, p, loads(0, 0), loads(1, 0))
	puts(t, g, 0, 0, api.Reg{Number: 1}, api.OK)
	goesOn(t, p, loads(0, word(1, 0)))
	ends(t, p, loads(1, 0), api.View{Regs: []api.Reg{{Number: 1}, {}}, Collects: 2})
}

// A scan that is disturbed in each collect ends all the same, with the last one.
func TestScanThatIsDisturbed(t *testing.T) { // 14.3
	for _, tries := range []int{1, 2, 5, api.MaxTries} {
		g := made(t, 2)
		p := begin(t, g, api.SnapOp{Kind: api.SnapScan, Tries: tries})
		for n := range uint32(tries) {
			goesOn(t, p, loads(0, 0))
			if last := int(n) == tries-1; last {
				ends(t, p, loads(1, word(n, n)), api.View{Regs: []api.Reg{{}, {Number: n, Value: n}}, Collects: tries})
			} else {
				goesOn(t, p, loads(1, word(n, n)))
			}
			puts(t, g, 1, n+1, api.Reg{Number: n + 1, Value: n + 1}, api.OK)
		}
	}
}

func TestPutThatIsDisturbed(t *testing.T) { // 14.3
	g := made(t, 1)
	p := begin(t, g, api.SnapOp{Kind: api.SnapPut, Value: 7})
	for n := range uint32(5) {
		goesOn(t, p, loads(0, word(n, 0)))
		puts(t, g, 0, 0, api.Reg{Number: n + 1}, api.OK)
		goesOn(t, p, fails(0, word(n+1, 0)))
	}
	goesOn(t, p, loads(0, word(5, 0)))
	ends(t, p, swaps(0, word(5, 0), word(6, 7)), one(6, 7))
	gets(t, g, 0, api.Reg{Number: 6, Value: 7}, api.OK)
}

// shadow is an operation on words of its own, as the document tells its actions.
type shadow struct {
	op     api.SnapOp
	loaded bool
	seen   []uint64 // all that was loaded
	over   bool
	view   api.View
}

func regs(words []uint64) []api.Reg {
	var l []api.Reg
	for _, w := range words {
		l = append(l, api.Reg{Number: uint32(w / (1 << 32)), Value: uint32(w % (1 << 32))})
	}
	return l
}

func (s *shadow) end(words []uint64) {
	s.over, s.view.Regs = true, regs(words)
}

func (s *shadow) step(words []uint64) api.Did {
	cell, n := s.op.Reg, len(words)
	switch {
	case s.op.Kind == api.SnapScan:
		cell = len(s.seen) % n
		s.seen = append(s.seen, words[cell])
		s.collects(n)
		return loads(cell, words[cell])
	case s.loaded:
		return s.swap(words)
	}
	s.loaded = true
	s.seen = append(s.seen, words[cell])
	if s.op.Kind == api.SnapGet {
		s.end(words[cell : cell+1])
	}
	return loads(cell, words[cell])
}

func (s *shadow) swap(words []uint64) api.Did {
	s.loaded = false
	saw, has := s.seen[len(s.seen)-1], words[s.op.Reg]
	if has != saw {
		return fails(s.op.Reg, has)
	}
	words[s.op.Reg] = word(uint32(saw>>32)+1, s.op.Value)
	s.end(words[s.op.Reg : s.op.Reg+1])
	return swaps(s.op.Reg, saw, words[s.op.Reg])
}

func (s *shadow) collects(n int) {
	if len(s.seen)%n != 0 {
		return
	}
	s.view.Collects++
	last := s.seen[len(s.seen)-n:]
	s.view.Clean = s.view.Collects > 1 && slices.Equal(last, s.seen[len(s.seen)-2*n:len(s.seen)-n])
	if s.view.Clean || s.view.Collects == s.op.Tries {
		s.end(last)
	}
}

// worker does operations, one behind another.
type worker struct {
	todo []api.SnapOp
	p    *snap.Pending
	s    *shadow
	from int // how many actions there were ahead of its operation's first one
}

// clean is what a clean scan answered, and how many actions there were at its end.
type clean struct {
	regs []api.Reg
	end  int
}

// course is workers on registers, by a schedule.
type course struct {
	t       *testing.T
	regs    *snap.Regs
	words   []uint64
	was     [][]uint64 // the words behind each action; the first ones ahead of all
	workers []*worker
	put     []uint32 // how many puts have ended, of each register
	lastPut int      // how many actions there were at the end of the last one
	cleans  []clean
	count   map[string]int
}

func newCourse(t *testing.T, n int, todo [][]api.SnapOp, count map[string]int) *course {
	c := &course{t: t, regs: made(t, n), words: make([]uint64, n), put: make([]uint32, n), count: count}
	c.was = append(c.was, make([]uint64, n))
	for _, l := range todo {
		c.workers = append(c.workers, &worker{todo: l})
	}
	return c
}

func (c *course) left() []int {
	var l []int
	for n, w := range c.workers {
		if w.p != nil || len(w.todo) > 0 {
			l = append(l, n)
		}
	}
	return l
}

// step does a worker's next action, and holds it against the words and what follows from them.
func (c *course) step(n int) {
	w := c.workers[n]
	if w.p == nil {
		op := w.todo[0]
		w.todo = w.todo[1:]
		w.p, w.s, w.from = begin(c.t, c.regs, op), &shadow{op: op}, len(c.was)-1
	}
	want := w.s.step(c.words)
	c.was = append(c.was, slices.Clone(c.words))
	got, ended := w.p.Step()
	view := w.p.Answer()
	if got != want || ended != w.s.over || w.p.Done() != ended || ended && !alike(view, w.s.view) || !ended && !isZero(view) {
		c.t.Fatalf("%v: %v, %v, %v; want %v, %v, %v", w.s.op, got, ended, view, want, w.s.over, w.s.view)
	}
	if got.Kind == api.ActCas && got.Ok {
		c.put[got.Cell]++
		c.lastPut = len(c.was) - 1
	}
	if !got.Ok {
		c.count["not done"]++
	}
	if !ended {
		return
	}
	if w.s.op.Kind == api.SnapScan {
		c.scanned(w, view)
	}
	w.p = nil
}

func (c *course) scanned(w *worker, view api.View) {
	last := len(c.was) - 1
	if c.lastPut <= w.from && w.s.op.Tries > 1 && (!view.Clean || view.Collects != 2) { // 14.8
		c.t.Fatalf("a scan that nobody disturbed: %v", view)
	}
	if !view.Clean {
		c.count["disturbed"]++
		return
	}
	if view.Collects > 2 {
		c.count["late"]++
	}
	isIt := func(words []uint64) bool { return slices.Equal(regs(words), view.Regs) }
	if !slices.ContainsFunc(c.was[w.from+1:last], isIt) { // 14.6
		c.t.Fatalf("%v is what the registers had at no moment of %v", view.Regs, c.was[w.from+1:last])
	}
	for _, x := range c.cleans { // 14.7
		if x.end <= w.from && less(view.Regs, x.regs) {
			c.t.Fatalf("behind %v comes %v", x.regs, view.Regs)
		}
	}
	c.cleans = append(c.cleans, clean{view.Regs, last})
}

// less tells whether a register of a later look has a lesser number.
func less(later, earlier []api.Reg) bool {
	for i, r := range later {
		if r.Number < earlier[i].Number {
			return true
		}
	}
	return false
}

func (c *course) end() { // 14.9
	got := c.regs.All()
	for i, r := range got {
		if r.Number != c.put[i] || r != regs(c.words)[i] {
			c.t.Fatalf("at the end: %v, want %v, put %v times", got, regs(c.words), c.put)
		}
	}
	c.count["schedules"]++
}

// every goes through all schedules by which the workers' operations end.
func every(t *testing.T, n int, todo [][]api.SnapOp, schedule []int, count map[string]int) {
	c := newCourse(t, n, todo, count)
	for _, n := range schedule {
		c.step(n)
	}
	left := c.left()
	if len(left) == 0 {
		c.end()
	}
	for _, w := range left {
		every(t, n, todo, append(slices.Clip(schedule), w), count)
	}
}

func TestEverySchedule(t *testing.T) { // 14.6 to 14.9
	put := func(reg int, value uint32) api.SnapOp {
		return api.SnapOp{Kind: api.SnapPut, Reg: reg, Value: value}
	}
	scan := func(tries int) api.SnapOp { return api.SnapOp{Kind: api.SnapScan, Tries: tries} }
	get := api.SnapOp{Kind: api.SnapGet}
	for _, x := range []struct {
		name  string
		regs  int
		todo  [][]api.SnapOp
		wants []string
	}{
		{"three put to one register", 1, [][]api.SnapOp{{put(0, 5)}, {put(0, 5)}, {put(0, 7)}}, []string{"not done"}},
		{"one puts twice, one scans", 2, [][]api.SnapOp{{put(0, 1), put(1, 2)}, {scan(3)}}, []string{"disturbed", "late"}},
		{"one puts twice the same, one scans", 2, [][]api.SnapOp{{put(0, 0), put(0, 0)}, {scan(2)}}, []string{"disturbed"}},
		{"one puts thrice, one scans a register", 1, [][]api.SnapOp{{put(0, 1), put(0, 2), put(0, 1)}, {scan(4)}}, []string{"disturbed", "late"}},
		{"two put, one scans", 2, [][]api.SnapOp{{put(0, 1)}, {put(1, 1)}, {scan(2)}}, []string{"disturbed"}},
		{"two put to one register, one scans", 2, [][]api.SnapOp{{put(1, 1)}, {put(1, 2)}, {scan(2)}}, []string{"disturbed", "not done"}},
		{"one puts, one scans twice", 2, [][]api.SnapOp{{put(0, 1)}, {scan(2), scan(2)}}, []string{"disturbed"}},
		{"one puts, two look", 1, [][]api.SnapOp{{put(0, 1)}, {scan(2), get}, {get, scan(1)}}, []string{"disturbed"}},
	} {
		t.Run(x.name, func(t *testing.T) {
			count := map[string]int{}
			every(t, x.regs, x.todo, nil, count)
			for _, what := range append(x.wants, "schedules") {
				if count[what] == 0 {
					t.Error("never came:", what)
				}
			}
		})
	}
}

func TestAnySchedule(t *testing.T) { // 14.3, 14.6 to 14.9
	r := rand.New(rand.NewSource(14))
	count := map[string]int{}
	for range 3000 {
		n := 1 + r.Intn(5)
		todo := make([][]api.SnapOp, 1+r.Intn(6))
		for w := range todo {
			for range 1 + r.Intn(6) {
				op := api.SnapOp{Kind: api.SnapKind(1 + r.Intn(3))}
				switch op.Kind {
				case api.SnapPut:
					op.Reg, op.Value = r.Intn(n), uint32(r.Intn(3))
				case api.SnapGet:
					op.Reg = r.Intn(n)
				case api.SnapScan:
					op.Tries = 1 + r.Intn(6)
				}
				todo[w] = append(todo[w], op)
			}
		}
		c := newCourse(t, n, todo, count)
		for left := c.left(); len(left) > 0; left = c.left() {
			w := left[r.Intn(len(left))]
			for range 1 + r.Intn(2*n) {
				if slices.Contains(c.left(), w) {
					c.step(w)
				}
			}
		}
		c.end()
	}
	for _, what := range []string{"not done", "disturbed", "late"} {
		if count[what] == 0 {
			t.Error("never came:", what)
		}
	}
}

func TestStepsByMany(t *testing.T) { // 14.3, 14.6, 14.7, 14.9
	const workers, each = 8, 500
	g := made(t, 3)
	var all sync.WaitGroup
	for w := range workers {
		all.Go(func() {
			last := make([]api.Reg, 3)
			for i := range each {
				op := api.SnapOp{Kind: api.SnapPut, Reg: i % 3, Value: uint32(i)}
				if w%2 == 0 {
					op = api.SnapOp{Kind: api.SnapScan, Tries: 2}
				}
				p, _ := g.Start(op)
				for ended := false; !ended; {
					_, ended = p.Step()
				}
				view := p.Answer()
				if !view.Clean {
					continue
				}
				if less(view.Regs, last) {
					t.Errorf("behind %v comes %v", last, view.Regs)
				}
				last = view.Regs
			}
		})
	}
	all.Wait()
	for n, r := range g.All() {
		if want := uint32((each + 2 - n) / 3 * workers / 2); r.Number != want || r.Value%3 != uint32(n) {
			t.Errorf("register %d: %v, want the number %d", n, r, want)
		}
	}
}
