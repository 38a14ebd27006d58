package quota_test

import (
	"math"
	"math/rand"
	"slices"
	"sync"
	"testing"

	"abacus/api"
	"abacus/quota"
)

func take(worker int) api.QuotaOp {
	return api.QuotaOp{Kind: api.QuotaTake, Worker: worker}
}

func back(worker int) api.QuotaOp {
	return api.QuotaOp{Kind: api.QuotaBack, Worker: worker}
}

var left = api.QuotaOp{Kind: api.QuotaLeft}

func begin(t *testing.T, q *quota.Quota, op api.QuotaOp) *quota.Pending {
	t.Helper()
	p, why := q.Start(op)
	if p == nil || why != api.OK {
		t.Fatalf("Start(%v): error %d", op, why)
	}
	return p
}

func TestStartRefuses(t *testing.T) { // 18.3, and the words
	q := made(t, 5, 2, 3)
	takes(t, q, 0, true, 3, 1, 0, 0)
	for _, op := range []api.QuotaOp{
		{}, {Worker: 1}, {Kind: api.QuotaCount}, {Kind: 255, Worker: 1},
		take(-1), take(3), take(math.MinInt), take(math.MaxInt), take(api.MaxWorkers),
		back(-1), back(3), back(math.MinInt), back(math.MaxInt),
		{Kind: api.QuotaLeft, Worker: 1}, {Kind: api.QuotaLeft, Worker: -1}, {Kind: api.QuotaLeft, Worker: 3},
	} {
		if p, why := q.Start(op); p != nil || why != api.ErrRange {
			t.Errorf("Start(%v): error %d", op, why)
		}
	}
	for _, op := range []api.QuotaOp{take(0), take(2), back(0), back(2), left} {
		if p := begin(t, q, op); p.Done() || p.Answer() != 0 {
			t.Errorf("%v, of which nothing is done yet: %v, %d", op, p.Done(), p.Answer())
		}
	}
	if !slices.Equal(q.All(), []uint64{3, 1, 0, 0}) {
		t.Error("Start does something:", q.All())
	}
}

func loads(cell int, saw uint64) api.Did {
	return api.Did{Kind: api.ActLoad, Cell: cell, Saw: saw, Put: saw, Ok: true}
}

func puts(cell int, saw, put uint64) api.Did {
	return api.Did{Kind: api.ActCas, Cell: cell, Saw: saw, Put: put, Ok: true}
}

func fails(cell int, saw uint64) api.Did {
	return api.Did{Kind: api.ActCas, Cell: cell, Saw: saw, Put: saw}
}

func adds(cell int, saw, put uint64) api.Did {
	return api.Did{Kind: api.ActAdd, Cell: cell, Saw: saw, Put: put, Ok: true}
}

func swaps(cell int, saw uint64) api.Did {
	return api.Did{Kind: api.ActSwap, Cell: cell, Saw: saw, Ok: true}
}

// steps steps an operation to its end, and holds each step against what is wanted; ahead of the step n it lets meet come between.
func steps(t *testing.T, p *quota.Pending, want []api.Did, n int, meet func(), answer int64) {
	t.Helper()
	for i, d := range want {
		if i == n {
			meet()
		}
		if p.Done() || p.Answer() != 0 {
			t.Errorf("ahead of step %d: %v, %d", i, p.Done(), p.Answer())
		}
		if got, ended := p.Step(); got != d || ended != (i == len(want)-1) {
			t.Errorf("step %d: %v, %v, want %v", i, got, ended, d)
		}
	}
	for range 2 {
		if got, ended := p.Step(); got != (api.Did{}) || !ended || !p.Done() || p.Answer() != answer {
			t.Errorf("at its end: %v, %v, %v, %d, want %d", got, ended, p.Done(), p.Answer(), answer)
		}
	}
}

func TestStepsAlone(t *testing.T) { // 18.3, the words, and example 2
	for _, x := range []struct {
		limit, batch int64
		ahead        []int // who takes first
		op           api.QuotaOp
		steps        []api.Did
		answer       int64
	}{
		{5, 2, nil, take(0), []api.Did{loads(1, 0), loads(0, 5), puts(0, 5, 3), adds(1, 0, 1)}, 1},
		{5, 2, nil, take(1), []api.Did{loads(2, 0), loads(0, 5), puts(0, 5, 3), adds(2, 0, 1)}, 1},
		{5, 2, []int{0}, take(0), []api.Did{loads(1, 1), puts(1, 1, 0)}, 1},
		{5, 3, []int{0}, take(0), []api.Did{loads(1, 2), puts(1, 2, 1)}, 1},
		{5, 3, []int{0}, take(1), []api.Did{loads(2, 0), loads(0, 2), puts(0, 2, 0), adds(2, 0, 1)}, 1}, // less than a batch
		{4, 3, []int{0}, take(1), []api.Did{loads(2, 0), loads(0, 1), puts(0, 1, 0)}, 1},                // just one
		{3, 3, []int{0}, take(1), []api.Did{loads(2, 0), loads(0, 0)}, 0},
		{5, 1, nil, take(0), []api.Did{loads(1, 0), loads(0, 5), puts(0, 5, 4)}, 1}, // by batches of one
		{5, 9, nil, take(0), []api.Did{loads(1, 0), loads(0, 5), puts(0, 5, 0), adds(1, 0, 4)}, 1},
		{0, 2, nil, take(0), []api.Did{loads(1, 0), loads(0, 0)}, 0},
		{5, 2, nil, back(0), []api.Did{swaps(1, 0)}, 0},
		{5, 2, []int{0}, back(1), []api.Did{swaps(2, 0)}, 0},
		{5, 2, []int{0}, back(0), []api.Did{swaps(1, 1), adds(0, 3, 4)}, 1},
		{5, 9, []int{1}, back(1), []api.Did{swaps(2, 4), adds(0, 0, 4)}, 4},
		{5, 2, nil, left, []api.Did{loads(0, 5), loads(1, 0), loads(2, 0)}, 5},
		{9, 3, []int{0, 1, 1}, left, []api.Did{loads(0, 3), loads(1, 2), loads(2, 1)}, 6},
		{0, 3, nil, left, []api.Did{loads(0, 0), loads(1, 0), loads(2, 0)}, 0},
		{api.MaxLimit, api.MaxBatch, nil, take(0), []api.Did{loads(1, 0), loads(0, api.MaxLimit), puts(0, api.MaxLimit, api.MaxLimit-api.MaxBatch), adds(1, 0, api.MaxBatch-1)}, 1},
	} {
		q := made(t, x.limit, x.batch, 2)
		for _, worker := range x.ahead {
			q.Take(worker)
		}
		steps(t, begin(t, q, x.op), x.steps, -1, nil, x.answer)
		if t.Failed() {
			t.Fatalf("of %v", x)
		}
	}
}

// What comes between a load and its swap: a swap that is not done has the pool looked at again, or all begun anew.
func TestCasNotDone(t *testing.T) { // 18.3, and the words
	for _, x := range []struct {
		name    string
		holds   bool // worker 0 has taken one at first
		between int  // ahead of this step of its Take
		meet    api.QuotaOp
		steps   []api.Did
		answer  int64
	}{
		{"another one borrows", false, 2, take(1), []api.Did{loads(1, 0), loads(0, 6), fails(0, 3), loads(0, 3), puts(0, 3, 0), adds(1, 0, 2)}, 1},
		{"another one borrows sooner", false, 1, take(1), []api.Did{loads(1, 0), loads(0, 3), puts(0, 3, 0), adds(1, 0, 2)}, 1},
		{"another one who looks", false, 2, left, []api.Did{loads(1, 0), loads(0, 6), puts(0, 6, 3), adds(1, 0, 2)}, 1},
		{"another one has nothing to give back", false, 2, back(1), []api.Did{loads(1, 0), loads(0, 6), puts(0, 6, 3), adds(1, 0, 2)}, 1},
		{"the same one borrows, too", false, 2, take(0), []api.Did{loads(1, 0), loads(0, 6), fails(0, 3), loads(0, 3), puts(0, 3, 0), adds(1, 2, 4)}, 1},
		{"the same one borrows in between", false, 3, take(0), []api.Did{loads(1, 0), loads(0, 6), puts(0, 6, 3), adds(1, 2, 4)}, 1},
		{"the same one takes", true, 1, take(0), []api.Did{loads(1, 2), fails(1, 1), loads(1, 1), puts(1, 1, 0)}, 1},
		{"the same one gives back", true, 1, back(0), []api.Did{loads(1, 2), fails(1, 0), loads(1, 0), loads(0, 5), puts(0, 5, 2), adds(1, 0, 2)}, 1},
		{"another one takes", true, 1, take(1), []api.Did{loads(1, 2), puts(1, 2, 1)}, 1},
	} {
		t.Run(x.name, func(t *testing.T) {
			q := made(t, 6, 3, 2)
			if x.holds {
				q.Take(0)
			}
			other := begin(t, q, x.meet)
			steps(t, begin(t, q, take(0)), x.steps, x.between, func() {
				for !other.Done() {
					other.Step()
				}
			}, x.answer)
		})
	}
}

// Of what is left of the pool while somebody has looked at it: he looks again, and is refused.
func TestRefusedBehindASwapThatIsNotDone(t *testing.T) { // 18.3, 18.8
	q := made(t, 2, 2, 2)
	steps(t, begin(t, q, take(0)), []api.Did{loads(1, 0), loads(0, 2), fails(0, 0), loads(0, 0)}, 2, func() { q.Take(1) }, 0)
	if !slices.Equal(q.All(), []uint64{0, 0, 1}) {
		t.Error("then", q.All())
	}
}

// shadow is an operation on cells of its own, as the document tells its actions: at is where it has come to.
type shadow struct {
	op     api.QuotaOp
	batch  uint64
	at     string
	saw    uint64
	hand   uint64 // what is in hand
	cell   int
	over   bool
	answer int64
}

func (s *shadow) end(answer int64) {
	s.over, s.answer, s.hand = true, answer, 0
}

func (s *shadow) step(cells []uint64) api.Did {
	own := s.op.Worker + 1
	switch s.op.Kind {
	case api.QuotaTake:
		return s.take(cells, own)
	case api.QuotaBack:
		if s.at == "" {
			s.hand, cells[own], s.at = cells[own], 0, "give"
			did := swaps(own, s.hand)
			if s.hand == 0 {
				s.end(0)
			}
			return did
		}
		had := s.hand
		cells[0] += had
		s.end(int64(had))
		return adds(0, cells[0]-had, cells[0])
	}
	s.cell++
	s.saw += cells[s.cell-1]
	if s.cell == len(cells) {
		s.end(int64(s.saw))
	}
	return loads(s.cell-1, cells[s.cell-1])
}

func (s *shadow) take(cells []uint64, own int) api.Did {
	switch s.at {
	case "":
		s.saw, s.at = cells[own], "spend"
		if s.saw == 0 {
			s.at = "pool"
		}
		return loads(own, s.saw)
	case "spend":
		if cells[own] != s.saw {
			s.at = ""
			return fails(own, cells[own])
		}
		cells[own]--
		s.end(1)
		return puts(own, s.saw, s.saw-1)
	case "pool":
		s.saw, s.at = cells[0], "borrow"
		if s.saw == 0 {
			s.end(0)
		}
		return loads(0, s.saw)
	case "borrow":
		if cells[0] != s.saw {
			s.at = "pool"
			return fails(0, cells[0])
		}
		s.hand, s.at = min(s.batch, s.saw), "keep"
		cells[0] -= s.hand
		did := puts(0, s.saw, cells[0])
		if s.hand == 1 {
			s.end(1)
		}
		return did
	}
	rest := s.hand - 1
	cells[own] += rest
	s.end(1)
	return adds(own, cells[own]-rest, cells[own])
}

// total is what the cells have, what was taken, and what is in hand.
func total(cells []uint64, l []*shadow) int64 {
	var sum int64
	for _, x := range cells {
		sum += int64(x)
	}
	for _, s := range l {
		sum += int64(s.hand)
		if s.op.Kind == api.QuotaTake {
			sum += s.answer
		}
	}
	return sum
}

// elsewhere is what workers hold, and what is in hand.
func elsewhere(cells []uint64, l []*shadow) int64 {
	var sum int64
	for _, x := range cells[1:] {
		sum += int64(x)
	}
	for _, s := range l {
		sum += int64(s.hand)
	}
	return sum
}

func randomOp(r *rand.Rand, workers int) api.QuotaOp {
	switch r.Intn(8) {
	case 0:
		return left
	case 1, 2:
		return back(r.Intn(workers))
	}
	return take(r.Intn(workers))
}

func TestAnySchedule(t *testing.T) { // 18.3, 18.6, 18.7
	r := rand.New(rand.NewSource(6))
	failed, refused := 0, 0
	for range 1500 {
		limit, batch, workers := r.Int63n(30), 1+r.Int63n(6), 1+r.Intn(4)
		q := made(t, limit, batch, workers)
		cells := make([]uint64, workers+1)
		cells[0] = uint64(limit)
		var pending []*quota.Pending
		var shadows []*shadow
		for range 150 {
			if len(pending) == 0 || r.Intn(4) == 0 {
				op := randomOp(r, workers)
				pending = append(pending, begin(t, q, op))
				shadows = append(shadows, &shadow{op: op, batch: uint64(batch)})
			}
			n := max(0, len(pending)-1-r.Intn(4)) // the latest ones, so that they are in one another's way
			p, s := pending[n], shadows[n]
			if s.over {
				continue
			}
			want := s.step(cells)
			if got, ended := p.Step(); got != want || ended != s.over || p.Done() != s.over || p.Answer() != s.answer || !slices.Equal(q.All(), cells) {
				t.Fatalf("%v: %v, %v, %d, cells %v, want %v, %v, %d, cells %v", s.op, got, ended, p.Answer(), q.All(), want, s.over, s.answer, cells)
			}
			if sum := total(cells, shadows); sum != limit {
				t.Fatalf("the cells, what was taken and what is in hand come to %d of %d", sum, limit)
			}
			if !want.Ok {
				failed++
			}
			if s.over && s.op.Kind == api.QuotaTake && s.answer == 0 {
				refused++
			}
		}
	}
	if failed == 0 || refused == 0 {
		t.Error("something never came:", failed, refused)
	}
}

// Each worker has one operation under way at a time.
func TestRefusedEarly(t *testing.T) { // 18.8
	r := rand.New(rand.NewSource(8))
	refused, most := 0, int64(0)
	for range 1500 {
		limit, batch, workers := r.Int63n(60), 1+r.Int63n(6), 1+r.Intn(6)
		q := made(t, limit, batch, workers)
		cells := make([]uint64, workers+1)
		cells[0] = uint64(limit)
		pending := make([]*quota.Pending, workers)
		shadows := make([]*shadow, workers)
		for range 300 {
			worker := r.Intn(workers)
			if pending[worker].Done() {
				op := take(worker)
				if r.Intn(6) == 0 {
					op = back(worker)
				}
				pending[worker], shadows[worker] = begin(t, q, op), &shadow{op: op, batch: uint64(batch)}
			}
			s := shadows[worker]
			s.step(cells)
			pending[worker].Step()
			if !slices.Equal(q.All(), cells) {
				t.Fatalf("cells %v, want %v", q.All(), cells)
			}
			if pending[worker].Done() && s.op.Kind == api.QuotaTake && pending[worker].Answer() == 0 {
				refused++
				there := elsewhere(cells, slices.DeleteFunc(slices.Clone(shadows), func(s *shadow) bool { return s == nil }))
				if most = max(most, there); there > int64(workers)*batch {
					t.Fatalf("one was refused, though %d are held by %d workers, by batches of %d", there, workers, batch)
				}
			}
		}
	}
	if refused == 0 || most == 0 {
		t.Error("something never came:", refused, most)
	}
}

// every goes through all schedules by which the operations end, and looks at each course behind each action.
func every(t *testing.T, limit, batch int64, ops []api.QuotaOp, schedule []int, look func(q *quota.Quota, l []*quota.Pending, trace []api.Event, still bool)) {
	q := made(t, limit, batch, 2)
	var pending []*quota.Pending
	for _, op := range ops {
		pending = append(pending, begin(t, q, op))
	}
	var trace []api.Event
	for _, n := range schedule {
		d, _ := pending[n].Step()
		trace = append(trace, api.Event{Worker: n, Did: d})
	}
	var open []int
	for n, p := range pending {
		if !p.Done() {
			open = append(open, n)
		}
	}
	look(q, pending, trace, len(open) == 0)
	for _, n := range open {
		every(t, limit, batch, ops, append(slices.Clip(schedule), n), look)
	}
}

// inHand is what is in hand of an operation, as its own actions tell.
func inHand(n int, p *quota.Pending, trace []api.Event) int64 {
	var hand int64
	for _, e := range trace {
		d := e.Did
		switch {
		case e.Worker != n:
		case d.Kind == api.ActCas && d.Cell == 0 && d.Ok, d.Kind == api.ActSwap:
			hand = int64(d.Saw - d.Put)
		}
	}
	if p.Done() {
		return 0
	}
	return hand
}

func TestNothingLostByEverySchedule(t *testing.T) { // 18.6, 18.7
	for _, ops := range [][]api.QuotaOp{
		{take(0), take(0), back(0)},
		{take(0), take(1), back(1)},
		{take(0), back(0), left},
		{take(0), take(0)},
		{take(0), take(1)},
	} {
		for _, x := range [][2]int64{{0, 1}, {1, 2}, {2, 2}, {3, 2}, {4, 3}, {9, 4}} {
			limit, ends := x[0], 0
			every(t, limit, x[1], ops, nil, func(q *quota.Quota, l []*quota.Pending, trace []api.Event, still bool) {
				var cells, taken, hand int64
				for _, x := range q.All() {
					cells += int64(x)
				}
				for n, p := range l {
					if ops[n].Kind == api.QuotaTake {
						taken += p.Answer()
					}
					hand += inHand(n, p, trace)
				}
				if cells+taken+hand != limit {
					t.Fatalf("of %d: the cells have %d, %d were taken, %d are in hand, by %v", limit, cells, taken, hand, trace)
				}
				if still {
					ends++
				}
			})
			if ends == 0 {
				t.Error("no schedule ends", ops)
			}
		}
	}
}

// Where there is a batch for each worker nobody is refused, whatever the schedule.
func TestAllAreGivenByEverySchedule(t *testing.T) { // 18.6, 18.8
	for _, ops := range [][]api.QuotaOp{{take(0), take(1)}, {take(0), take(0)}} {
		every(t, 4, 2, ops, nil, func(q *quota.Quota, l []*quota.Pending, trace []api.Event, still bool) {
			if still && (l[0].Answer() != 1 || l[1].Answer() != 1 || q.Left() != 2) {
				t.Fatal("answers", l[0].Answer(), l[1].Answer(), "left", q.Left(), "by", trace)
			}
		})
	}
}

func TestStepsByMany(t *testing.T) { // 18.3, 18.6
	const workers, each, limit = 8, 700, 4000
	q := made(t, limit, 5, workers)
	taken := make([]int64, workers)
	var all sync.WaitGroup
	for worker := range workers {
		all.Go(func() {
			for i := range each {
				op := take(worker)
				if i%20 == 19 {
					op = back(worker)
				}
				p, why := q.Start(op)
				for ended := why != api.OK; !ended; {
					_, ended = p.Step()
				}
				if op.Kind == api.QuotaTake {
					taken[worker] += p.Answer()
				}
			}
			q.Back(worker)
		})
	}
	all.Wait()
	var sum int64
	for _, n := range taken {
		sum += n
	}
	if sum > limit || sum+q.Left() != limit || q.All()[0] != uint64(q.Left()) {
		t.Errorf("%d of %d were taken, %v", sum, limit, q.All())
	}
}
