package once_test

import (
	"math"
	"runtime"
	"sync"
	"sync/atomic"
	"testing"

	"abacus/api"
	"abacus/once"
)

// gives is a maker that gives x, and counts how often it is called.
func gives(x uint64, calls *int) func() (uint64, bool) {
	return func() (uint64, bool) {
		*calls++
		return x, true
	}
}

// fails is a maker that fails, whatever it gives beside that.
func fails() (uint64, bool) {
	return 99, false
}

// gets holds a Get against what is wanted.
func gets(t *testing.T, c *once.Cell, maker func() (uint64, bool), x uint64, own bool, err api.Errno) {
	t.Helper()
	if got, by, why := c.Get(maker); got != x || by != own || why != err {
		t.Errorf("Get: %d, %v, error %d, want %d, %v, error %d", got, by, why, x, own, err)
	}
}

func peeks(t *testing.T, c *once.Cell, x uint64, err api.Errno) {
	t.Helper()
	if got, why := c.Peek(); got != x || why != err {
		t.Errorf("Peek: %d, error %d, want %d, error %d", got, why, x, err)
	}
}

func TestNew(t *testing.T) { // 13.1
	c := once.New()
	if c == nil {
		t.Fatal("New is nil")
	}
	peeks(t, c, 0, api.ErrNone)
	if other := once.New(); other == c {
		t.Error("two things are one")
	}
}

func TestGet(t *testing.T) { // 13.2, and example 2
	for _, x := range []uint64{3, 0, 1, math.MaxUint64} {
		c, calls := once.New(), 0
		gets(t, c, gives(x, &calls), x, true, api.OK)
		peeks(t, c, x, api.OK)
		for range 2 {
			gets(t, c, gives(x+1, &calls), x, false, api.OK)
			gets(t, c, fails, x, false, api.OK)
			peeks(t, c, x, api.OK)
		}
		if calls != 1 {
			t.Errorf("makers were called %d times", calls)
		}
	}
}

func TestGetThatFails(t *testing.T) { // 13.2
	c, calls := once.New(), 0
	for range 3 {
		gets(t, c, fails, 0, false, api.ErrMake)
		peeks(t, c, 0, api.ErrNone)
	}
	gets(t, c, gives(7, &calls), 7, true, api.OK)
	gets(t, c, fails, 7, false, api.OK)
}

func TestGetWithoutMaker(t *testing.T) { // 13.2
	c, calls := once.New(), 0
	gets(t, c, nil, 0, false, api.ErrNil)
	peeks(t, c, 0, api.ErrNone)
	gets(t, c, gives(7, &calls), 7, true, api.OK)
	gets(t, c, nil, 0, false, api.ErrNil) // though it is made
	peeks(t, c, 7, api.OK)
}

func TestNil(t *testing.T) { // 13.6
	var c *once.Cell
	calls := 0
	gets(t, c, gives(7, &calls), 0, false, api.ErrNil)
	gets(t, c, nil, 0, false, api.ErrNil)
	peeks(t, c, 0, api.ErrNil)
	if calls != 0 {
		t.Error("the maker of a nil thing is called")
	}
	for _, op := range []api.OnceOp{{Kind: api.OnceMake, X: 1}, {Kind: api.OncePeek}, {}, {Kind: api.OncePeek, X: 1}} {
		if p, why := c.Start(op); p != nil || why != api.ErrNil {
			t.Errorf("Start(%v) of a nil thing: error %d", op, why)
		}
	}
	var p *once.Pending
	for range 2 {
		if d, ended := p.Step(); d != (api.Did{}) || !ended || !p.Done() {
			t.Error("a nil operation:", d, ended, p.Done())
		}
	}
	if x, own, why := p.Answer(); x != 0 || own || why != api.ErrNil {
		t.Errorf("Answer of a nil operation: %d, %v, error %d", x, own, why)
	}
}

func TestThingsAreApart(t *testing.T) { // P4
	a, b, calls := once.New(), once.New(), 0
	gets(t, a, func() (uint64, bool) {
		gets(t, b, gives(5, &calls), 5, true, api.OK) // nobody waits for another thing's making
		return 6, true
	}, 6, true, api.OK)
	peeks(t, a, 6, api.OK)
	peeks(t, b, 5, api.OK)
}

// caught does something, and is what it panics with.
func caught(f func()) (what any) {
	defer func() { what = recover() }()
	f()
	return nil
}

func TestMakerThatPanics(t *testing.T) { // 13.2
	c, calls := once.New(), 0
	for _, what := range []any{"a fault", 7} {
		got := caught(func() { c.Get(func() (uint64, bool) { panic(what) }) })
		if got != what {
			t.Errorf("a maker's panic %v goes on as %v", what, got)
		}
		peeks(t, c, 0, api.ErrNone)
		ends(t, begin(t, c, api.OnceOp{Kind: api.OncePeek}), loads(0, 0), 0, false, api.ErrNone)
	}
	gets(t, c, gives(7, &calls), 7, true, api.OK)
	if got := caught(func() { c.Get(func() (uint64, bool) { panic("never") }) }); got != nil {
		t.Error("the maker of what is made is called:", got)
	}
}

// A maker that ends its goroutine leaves nobody waiting.
func TestMakerThatEndsItsGoroutine(t *testing.T) { // 13.2, P1
	c, calls := once.New(), 0
	var all sync.WaitGroup
	all.Go(func() {
		c.Get(func() (uint64, bool) {
			runtime.Goexit()
			return 5, true
		})
	})
	all.Wait()
	peeks(t, c, 0, api.ErrNone)
	gets(t, c, gives(7, &calls), 7, true, api.OK)
}

func TestWhileItIsMade(t *testing.T) { // 13.2, 13.7
	c := once.New()
	gets(t, c, func() (uint64, bool) {
		peeks(t, c, 0, api.ErrNone)
		ends(t, begin(t, c, api.OnceOp{Kind: api.OncePeek}), loads(0, 1), 0, false, api.ErrNone)
		return 7, true
	}, 7, true, api.OK)
	peeks(t, c, 7, api.OK)
}

// However many ask, one makes it, and the others wait till they can be told its value.
func TestGetByMany(t *testing.T) { // 13.2, 13.7
	const workers = 32
	for range 50 {
		c, calls := once.New(), 0
		var own, told atomic.Int64
		var ready atomic.Bool
		var all sync.WaitGroup
		for n := range uint64(workers) {
			all.Go(func() {
				if x, why := c.Peek(); why != api.ErrNone && (x < 100 || !ready.Load()) {
					t.Errorf("Peek: %d, error %d", x, why)
				}
				x, by, why := c.Get(func() (uint64, bool) {
					calls++ // of all goroutines: they make one behind another
					runtime.Gosched()
					ready.Store(true)
					return 100 + n, true
				})
				if by {
					own.Add(1)
				}
				if x < 100 || !ready.Load() || by != (x == 100+n) || why != api.OK {
					t.Errorf("Get: %d, %v, error %d", x, by, why)
				}
				told.Add(int64(x))
			})
		}
		all.Wait()
		x, why := c.Peek()
		if calls != 1 || own.Load() != 1 || told.Load() != workers*int64(x) || why != api.OK {
			t.Fatalf("%d calls, %d made it, told %d of %d", calls, own.Load(), told.Load(), x)
		}
	}
}

// While makers fail, or panic, each who asks tries in turn, one at a time, till one has made it.
func TestGetByManyThatFail(t *testing.T) { // 13.2, 13.7
	const workers, bad = 32, 20
	for range 50 {
		c, calls, inside := once.New(), 0, 0
		maker := func() (uint64, bool) {
			calls++
			inside++
			if inside != 1 {
				t.Error("two make at one time")
			}
			runtime.Gosched()
			inside--
			if calls%2 == 0 && calls <= bad {
				panic("a fault")
			}
			return 7, calls > bad
		}
		var failed, panicked, own, other atomic.Int64
		var all sync.WaitGroup
		for range workers {
			all.Go(func() {
				if caught(func() {
					x, by, why := c.Get(maker)
					switch {
					case x == 0 && !by && why == api.ErrMake:
						failed.Add(1)
					case x == 7 && by && why == api.OK:
						own.Add(1)
					case x == 7 && why == api.OK:
						other.Add(1)
					default:
						t.Errorf("Get: %d, %v, error %d", x, by, why)
					}
				}) != nil {
					panicked.Add(1)
				}
			})
		}
		all.Wait()
		if calls != bad+1 || failed.Load() != bad/2 || panicked.Load() != bad/2 || own.Load() != 1 || other.Load() != workers-bad-1 {
			t.Fatalf("%d calls: %d failed, %d panicked, %d made it, %d were told", calls, failed.Load(), panicked.Load(), own.Load(), other.Load())
		}
	}
}

func TestGetAndSteps(t *testing.T) { // 13.2
	calls := 0
	c := once.New()
	p, peek := begin(t, c, api.OnceOp{Kind: api.OnceMake, X: 5}), begin(t, c, api.OnceOp{Kind: api.OncePeek})
	goesOn(t, p, loads(0, 0))
	gets(t, c, gives(7, &calls), 7, true, api.OK)
	goesOn(t, p, swaps(2, false), loads(0, 2))
	ends(t, p, loads(1, 7), 7, false, api.OK)
	goesOn(t, peek, loads(0, 2))
	ends(t, peek, loads(1, 7), 7, false, api.OK)

	c = once.New()
	p = begin(t, c, api.OnceOp{Kind: api.OnceFail})
	goesOn(t, p, loads(0, 0))
	gets(t, c, fails, 0, false, api.ErrMake)
	goesOn(t, p, swaps(0, true))
	peeks(t, c, 0, api.ErrNone)
	ends(t, p, stores(0, 1, 0), 0, false, api.ErrMake)
	p = begin(t, c, api.OnceOp{Kind: api.OnceMake, X: math.MaxUint64})
	goesOn(t, p, loads(0, 0), swaps(0, true), stores(1, 0, math.MaxUint64))
	peeks(t, c, 0, api.ErrNone) // the value is there, but nobody is told as yet
	ends(t, p, stores(0, 1, 2), math.MaxUint64, true, api.OK)
	peeks(t, c, math.MaxUint64, api.OK)
	gets(t, c, gives(7, &calls), math.MaxUint64, false, api.OK)
	if calls != 1 {
		t.Errorf("makers were called %d times", calls)
	}
}

// A Get that is asked all the same while a stepped operation makes the thing ends, and makes nothing.
func TestGetWhileAnOperationMakes(t *testing.T) { // 13.7, P1
	c, calls := once.New(), 0
	p := begin(t, c, api.OnceOp{Kind: api.OnceMake, X: 5})
	goesOn(t, p, loads(0, 0), swaps(0, true))
	gets(t, c, gives(7, &calls), 0, false, api.ErrMake)
	goesOn(t, p, stores(1, 0, 5))
	ends(t, p, stores(0, 1, 2), 5, true, api.OK)
	gets(t, c, gives(7, &calls), 5, false, api.OK)
	if calls != 0 {
		t.Error("what an operation makes is made by Get, too")
	}
}
