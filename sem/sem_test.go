package sem_test

import (
	"math"
	"sync"
	"sync/atomic"
	"testing"

	"abacus/api"
	"abacus/sem"
)

func made(t *testing.T, places int) *sem.Sem {
	t.Helper()
	s, why := sem.New(places)
	if s == nil || why != api.OK {
		t.Fatalf("New(%d): error %d", places, why)
	}
	return s
}

func tries(t *testing.T, s *sem.Sem, want uint64, err api.Errno) {
	t.Helper()
	if got, why := s.Try(); got != want || why != err {
		t.Errorf("Try: %d, error %d, want %d, error %d", got, why, want, err)
	}
}

func leaves(t *testing.T, s *sem.Sem, err api.Errno) {
	t.Helper()
	if why := s.Leave(); why != err {
		t.Errorf("Leave: error %d, want %d", why, err)
	}
}

func insides(t *testing.T, s *sem.Sem, want uint64) {
	t.Helper()
	if got, why := s.Inside(); got != want || why != api.OK {
		t.Errorf("Inside: %d, error %d, want %d", got, why, want)
	}
}

func TestNew(t *testing.T) { // 7.1
	for _, places := range []int{0, -1, math.MinInt, api.MaxCells + 1, math.MaxInt} {
		if s, why := sem.New(places); s != nil || why != api.ErrRange {
			t.Errorf("New(%d): error %d", places, why)
		}
	}
	for _, places := range []int{1, 2, 100, api.MaxCells - 1, api.MaxCells} {
		s := made(t, places)
		insides(t, s, 0)
		leaves(t, s, api.ErrFree)
		for ticket := range places {
			tries(t, s, uint64(ticket), api.OK)
		}
		insides(t, s, uint64(places))
		tries(t, s, 0, api.ErrFull)
		insides(t, s, uint64(places))
	}
}

func TestExampleOfOnePlace(t *testing.T) { // example 1
	s := made(t, 1)
	tries(t, s, 0, api.OK)
	tries(t, s, 0, api.ErrFull)
	insides(t, s, 1)
	leaves(t, s, api.OK)
	leaves(t, s, api.ErrFree)
	tries(t, s, 1, api.OK)
}

func TestPlainCalls(t *testing.T) { // 7.2
	s := made(t, 3)
	tries(t, s, 0, api.OK)
	tries(t, s, 1, api.OK)
	insides(t, s, 2)
	leaves(t, s, api.OK)
	insides(t, s, 1)
	tries(t, s, 2, api.OK)
	tries(t, s, 3, api.OK)
	tries(t, s, 0, api.ErrFull)
	for left := range uint64(3) {
		insides(t, s, 3-left)
		leaves(t, s, api.OK)
	}
	insides(t, s, 0)
	leaves(t, s, api.ErrFree)
	insides(t, s, 0)
	tries(t, s, 4, api.OK)
	insides(t, s, 1)
}

// Who waits is not inside, but what is drawn stands ahead of those who try.
func TestPlainCallsBesideWaiters(t *testing.T) { // 7.2, 7.5
	s := made(t, 1)
	tries(t, s, 0, api.OK)
	waiter := begin(t, s, api.SemEnter)
	waiter.Step()
	waiter.Step()
	insides(t, s, 1)
	tries(t, s, 0, api.ErrFull)
	leaves(t, s, api.OK)
	insides(t, s, 1) // its ticket is served, though it has not looked yet
	tries(t, s, 0, api.ErrFull)
	if _, ended := waiter.Step(); !ended {
		t.Error("a ticket that is served waits")
	}
	leaves(t, s, api.OK)
	insides(t, s, 0)
	tries(t, s, 2, api.OK)
}

func TestNil(t *testing.T) { // 7.4
	var s *sem.Sem
	if got, why := s.Try(); got != 0 || why != api.ErrNil {
		t.Error("Try of a nil semaphore:", got, why)
	}
	if why := s.Leave(); why != api.ErrNil {
		t.Error("Leave of a nil semaphore:", why)
	}
	if got, why := s.Inside(); got != 0 || why != api.ErrNil {
		t.Error("Inside of a nil semaphore:", got, why)
	}
	for _, k := range []api.SemKind{api.SemNone, api.SemEnter, api.SemTry, api.SemLeave, api.SemInside, api.SemCount, 255} {
		if p, why := s.Start(k); p != nil || why != api.ErrNil {
			t.Errorf("Start(%d) of a nil semaphore: error %d", k, why)
		}
	}
	var p *sem.Pending
	for range 2 {
		if did, ended := p.Step(); did != (api.Did{}) || !ended || !p.Done() {
			t.Error("a nil operation:", did, ended, p.Done())
		}
		if got, why := p.Answer(); got != 0 || why != api.ErrNil {
			t.Error("Answer of a nil operation:", got, why)
		}
	}
}

func TestTwoSemaphoresAreApart(t *testing.T) { // P4
	a, b := made(t, 1), made(t, 1)
	tries(t, a, 0, api.OK)
	insides(t, b, 0)
	leaves(t, b, api.ErrFree)
	tries(t, b, 0, api.OK)
	leaves(t, b, api.OK)
	insides(t, a, 1)
}

func TestPlainCallsByMany(t *testing.T) { // 7.2, 7.5, 7.7
	const workers, each, places = 8, 3000, 3
	s := made(t, places)
	var inside, entered atomic.Int64
	var all sync.WaitGroup
	for range workers {
		all.Go(func() {
			for range each {
				if n, why := s.Inside(); n > places || why != api.OK {
					t.Errorf("Inside: %d, error %d", n, why)
				}
				switch _, why := s.Try(); why {
				case api.OK:
				case api.ErrFull:
					continue
				default:
					t.Error("Try: error", why)
				}
				entered.Add(1)
				if inside.Add(1) > places {
					t.Error("too many are inside")
				}
				inside.Add(-1)
				leaves(t, s, api.OK)
			}
		})
	}
	all.Wait()
	insides(t, s, 0)
	leaves(t, s, api.ErrFree)
	tries(t, s, uint64(entered.Load()), api.OK)
	if entered.Load() == 0 {
		t.Error("nobody entered")
	}
}
