package quota_test

import (
	"math"
	"math/rand"
	"slices"
	"sync"
	"testing"

	"abacus/api"
	"abacus/quota"
)

func made(t *testing.T, limit, batch int64, workers int) *quota.Quota {
	t.Helper()
	q, why := quota.New(limit, batch, workers)
	if q == nil || why != api.OK {
		t.Fatalf("New(%d, %d, %d): error %d", limit, batch, workers, why)
	}
	return q
}

// takes holds a Take, and the cells behind it, against what is wanted.
func takes(t *testing.T, q *quota.Quota, worker int, want bool, has ...uint64) {
	t.Helper()
	if got, why := q.Take(worker); got != want || why != api.OK || !slices.Equal(q.All(), has) {
		t.Errorf("Take(%d): %v, error %d, then %v, want %v, then %v", worker, got, why, q.All(), want, has)
	}
}

// gives holds a Back, and the cells behind it, against what is wanted.
func gives(t *testing.T, q *quota.Quota, worker int, want int64, has ...uint64) {
	t.Helper()
	if got, why := q.Back(worker); got != want || why != api.OK || !slices.Equal(q.All(), has) {
		t.Errorf("Back(%d): %d, error %d, then %v, want %d, then %v", worker, got, why, q.All(), want, has)
	}
}

func TestNew(t *testing.T) { // 18.1
	limits, noLimits := []int64{0, 1, 5, api.MaxLimit - 1, api.MaxLimit}, []int64{-1, math.MinInt64, api.MaxLimit + 1, math.MaxInt64}
	batches, noBatches := []int64{1, 2, api.MaxBatch - 1, api.MaxBatch}, []int64{0, -1, math.MinInt64, api.MaxBatch + 1, math.MaxInt64}
	workers, noWorkers := []int{1, 2, api.MaxWorkers - 1, api.MaxWorkers}, []int{0, -1, math.MinInt, api.MaxWorkers + 1, math.MaxInt}
	for _, limit := range limits {
		for _, batch := range batches {
			for _, n := range workers {
				q := made(t, limit, batch, n)
				want := make([]uint64, n+1)
				want[0] = uint64(limit)
				if !slices.Equal(q.All(), want) || q.Left() != limit {
					t.Errorf("New(%d, %d, %d) has %v, and %d left", limit, batch, n, q.All(), q.Left())
				}
			}
		}
	}
	refused := func(limit, batch int64, n int) {
		if q, why := quota.New(limit, batch, n); q != nil || why != api.ErrRange {
			t.Errorf("New(%d, %d, %d): error %d", limit, batch, n, why)
		}
	}
	for _, limit := range noLimits {
		refused(limit, 1, 1)
		refused(limit, 0, 0)
	}
	for _, batch := range noBatches {
		refused(5, batch, 1)
	}
	for _, n := range noWorkers {
		refused(5, 2, n)
	}
}

func TestExamples(t *testing.T) { // examples 1 and 3
	q := made(t, 5, 2, 2)
	takes(t, q, 0, true, 3, 1, 0)
	takes(t, q, 1, true, 1, 1, 1)
	takes(t, q, 1, true, 1, 1, 0)
	takes(t, q, 1, true, 0, 1, 0)
	takes(t, q, 1, false, 0, 1, 0)
	gives(t, q, 0, 1, 1, 0, 0)
	takes(t, q, 1, true, 0, 0, 0)
	if q.Left() != 0 {
		t.Error("Left:", q.Left())
	}
	if q, why := quota.New(1, 0, 1); q != nil || why != api.ErrRange {
		t.Error("New(1, 0, 1): error", why)
	}
	if got, why := q.Take(2); got || why != api.ErrRange {
		t.Error("Take(2):", got, why)
	}
	for _, x := range []struct {
		workers, each int
		taken, left   int64
	}{{2, 2, 4, 1}, {3, 10, 5, 0}} {
		if taken, left, why := quota.Free(5, 2, x.workers, x.each); taken != x.taken || left != x.left || why != api.OK {
			t.Errorf("Free of %v: %d, %d, error %d", x, taken, left, why)
		}
	}
}

func TestNoSuchWorker(t *testing.T) { // 18.2
	q := made(t, 7, 3, 2)
	takes(t, q, 1, true, 4, 0, 2)
	for _, worker := range []int{-1, 2, 3, api.MaxWorkers, math.MinInt, math.MaxInt} {
		if got, why := q.Take(worker); got || why != api.ErrRange {
			t.Errorf("Take(%d): %v, error %d", worker, got, why)
		}
		if got, why := q.Back(worker); got != 0 || why != api.ErrRange {
			t.Errorf("Back(%d): %d, error %d", worker, got, why)
		}
	}
	if !slices.Equal(q.All(), []uint64{4, 0, 2}) {
		t.Error("a refused call does something:", q.All())
	}
}

func TestTakeAndBack(t *testing.T) { // 18.2, and the words
	q := made(t, 7, 3, 3)
	gives(t, q, 0, 0, 7, 0, 0, 0)
	takes(t, q, 2, true, 4, 0, 0, 2)
	takes(t, q, 2, true, 4, 0, 0, 1)
	gives(t, q, 2, 1, 5, 0, 0, 0)
	gives(t, q, 2, 0, 5, 0, 0, 0)
	takes(t, q, 1, true, 2, 0, 2, 0)
	takes(t, q, 0, true, 0, 1, 2, 0) // the last batch is what the pool has
	takes(t, q, 0, true, 0, 0, 2, 0)
	takes(t, q, 0, false, 0, 0, 2, 0)
	takes(t, q, 2, false, 0, 0, 2, 0)
	takes(t, q, 1, true, 0, 0, 1, 0)
	if q.Left() != 1 {
		t.Error("Left:", q.Left())
	}
	gives(t, q, 1, 1, 1, 0, 0, 0)
	takes(t, q, 2, true, 0, 0, 0, 0)
	for worker := range 3 {
		takes(t, q, worker, false, 0, 0, 0, 0)
		gives(t, q, worker, 0, 0, 0, 0, 0)
	}
}

func TestLimits(t *testing.T) { // 18.1, 18.2
	q := made(t, 0, 1, 1)
	takes(t, q, 0, false, 0, 0)
	gives(t, q, 0, 0, 0, 0)

	q = made(t, 2, 1, 2) // by batches of one nobody ever holds anything
	takes(t, q, 0, true, 1, 0, 0)
	takes(t, q, 1, true, 0, 0, 0)
	takes(t, q, 0, false, 0, 0, 0)

	q = made(t, api.MaxLimit, api.MaxBatch, 1)
	takes(t, q, 0, true, api.MaxLimit-api.MaxBatch, api.MaxBatch-1)
	takes(t, q, 0, true, api.MaxLimit-api.MaxBatch, api.MaxBatch-2)
	if q.Left() != api.MaxLimit-2 {
		t.Error("Left:", q.Left())
	}
	gives(t, q, 0, api.MaxBatch-2, api.MaxLimit-2, 0)

	q = made(t, 5, api.MaxBatch, 1) // a batch that is greater than the limit
	takes(t, q, 0, true, 0, 4)
	gives(t, q, 0, 4, 4, 0)
}

// plain is a quota whose calls come one behind another, as the document tells them.
type plain struct {
	pool, batch int64
	held        []int64
}

func (p *plain) take(worker int) bool {
	if p.held[worker] == 0 {
		b := min(p.batch, p.pool)
		p.pool -= b
		p.held[worker] = b
	}
	if p.held[worker] == 0 {
		return false
	}
	p.held[worker]--
	return true
}

func (p *plain) back(worker int) int64 {
	n := p.held[worker]
	p.pool += n
	p.held[worker] = 0
	return n
}

func TestPlainCallsAgainstTheWords(t *testing.T) { // 18.2, 18.6, 18.7
	r := rand.New(rand.NewSource(18))
	refused := 0
	for range 500 {
		limit, batch, workers := r.Int63n(60), 1+r.Int63n(9), 1+r.Intn(5)
		q, p := made(t, limit, batch, workers), plain{limit, batch, make([]int64, workers)}
		var taken int64
		for range 120 {
			worker := r.Intn(workers)
			if r.Intn(5) == 0 {
				want := p.back(worker)
				if got, why := q.Back(worker); got != want || why != api.OK {
					t.Fatalf("Back(%d): %d, error %d, want %d", worker, got, why, want)
				}
			} else {
				want := p.take(worker)
				if got, why := q.Take(worker); got != want || why != api.OK {
					t.Fatalf("Take(%d): %v, error %d, want %v", worker, got, why, want)
				}
				if want {
					taken++
				} else {
					refused++
				}
			}
			if q.Left() != limit-taken {
				t.Fatalf("%d of %d were taken, and %d are left", taken, limit, q.Left())
			}
		}
	}
	if refused == 0 {
		t.Error("nobody was ever refused")
	}
}

func TestAnswersAreNewMemory(t *testing.T) { // 18.5
	q := made(t, 5, 2, 2)
	a, b := q.All(), q.All()
	a[0], a[1] = 77, 78
	if !slices.Equal(b, []uint64{5, 0, 0}) || !slices.Equal(q.All(), b) || q.Left() != 5 {
		t.Error("what was answered is shared:", b, q.All())
	}
}

func TestTwoQuotasAreApart(t *testing.T) { // P4
	a, b := made(t, 5, 2, 2), made(t, 5, 2, 2)
	takes(t, a, 0, true, 3, 1, 0)
	takes(t, b, 1, true, 3, 0, 1)
	takes(t, a, 0, true, 3, 0, 0)
	if b.Left() != 4 {
		t.Error("Left:", b.Left())
	}
}

func TestNil(t *testing.T) { // 18.5
	var q *quota.Quota
	if len(q.All()) != 0 || q.Left() != 0 {
		t.Error("a nil quota answers something")
	}
	for _, worker := range []int{0, 5, -1, math.MaxInt} {
		if got, why := q.Take(worker); got || why != api.ErrNil {
			t.Errorf("Take(%d) of a nil quota: %v, error %d", worker, got, why)
		}
		if got, why := q.Back(worker); got != 0 || why != api.ErrNil {
			t.Errorf("Back(%d) of a nil quota: %d, error %d", worker, got, why)
		}
	}
	for _, op := range []api.QuotaOp{{}, {Kind: api.QuotaLeft}, {Kind: api.QuotaTake, Worker: -1}, {Kind: 99}} {
		if p, why := q.Start(op); p != nil || why != api.ErrNil {
			t.Errorf("Start(%v) of a nil quota: error %d", op, why)
		}
	}
	var p *quota.Pending
	for range 2 {
		if did, ended := p.Step(); did != (api.Did{}) || !ended || !p.Done() || p.Answer() != 0 {
			t.Error("a nil operation:", did, ended, p.Done(), p.Answer())
		}
	}
}

func TestPlainCallsByMany(t *testing.T) { // 18.2, 18.6, 18.7
	const workers, each, limit = 8, 3000, 20000
	q := made(t, limit, 7, workers)
	taken := make([]int64, 2*workers)
	var all sync.WaitGroup
	for n := range taken { // two goroutines a worker
		all.Go(func() {
			worker := n / 2
			for i := range each {
				took, why := q.Take(worker)
				if why != api.OK {
					t.Error("Take: error", why)
				}
				if took {
					taken[n]++
				}
				if i%50 == 0 {
					if back, why := q.Back(worker); back < 0 || back > 2*7 || why != api.OK {
						t.Error("Back:", back, why)
					}
				}
				if left := q.Left(); left < 0 {
					t.Error("Left:", left)
				}
			}
		})
	}
	all.Wait()
	var sum int64
	for _, n := range taken {
		sum += n
	}
	if sum > limit || sum+q.Left() != limit {
		t.Errorf("%d of %d were taken, and %d are left", sum, limit, q.Left())
	}
}
