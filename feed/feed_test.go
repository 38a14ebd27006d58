package feed_test

import (
	"math"
	"math/rand"
	"runtime"
	"slices"
	"sync"
	"testing"

	"abacus/api"
	"abacus/feed"
)

func made(t *testing.T, size int) *feed.Feed {
	t.Helper()
	f, why := feed.New(size)
	if f == nil || why != api.OK {
		t.Fatalf("New(%d): error %d", size, why)
	}
	return f
}

func puts(t *testing.T, f *feed.Feed, x, want uint64, err api.Errno) {
	t.Helper()
	if got, why := f.Put(x); got != want || why != err {
		t.Errorf("Put(%d): %d, error %d, want %d, error %d", x, got, why, want, err)
	}
}

func takes(t *testing.T, f *feed.Feed, at, x uint64, err api.Errno) {
	t.Helper()
	if got, why := f.Take(); got != (api.Fed{At: at, X: x}) || why != err {
		t.Errorf("Take: %v, error %d, want %d at %d, error %d", got, why, x, at, err)
	}
}

func has(t *testing.T, f *feed.Feed, want uint64) {
	t.Helper()
	if got := f.Len(); got != want {
		t.Errorf("Len: %d, want %d", got, want)
	}
}

func TestNew(t *testing.T) { // 21.1
	for _, size := range []int{1, 0, -1, -2, math.MinInt, api.MaxFeed + 1, 2 * api.MaxFeed, math.MaxInt} {
		if f, why := feed.New(size); f != nil || why != api.ErrRange {
			t.Errorf("New(%d): error %d", size, why)
		}
	}
	for _, size := range []uint64{2, 3, 100, api.MaxFeed - 1, api.MaxFeed} {
		f := made(t, int(size))
		for lap := range uint64(3) {
			from := lap * size
			has(t, f, 0)
			takes(t, f, 0, 0, api.ErrNone)
			for i := range size {
				puts(t, f, from+i+7, from+i, api.OK)
				has(t, f, i+1)
			}
			puts(t, f, 9, 0, api.ErrFull)
			has(t, f, size)
			for i := range size {
				takes(t, f, from+i, from+i+7, api.OK)
				has(t, f, size-i-1)
			}
		}
		takes(t, f, 0, 0, api.ErrNone)
	}
}

func TestExampleOfTwoSlots(t *testing.T) { // example 1
	f := made(t, 2)
	takes(t, f, 0, 0, api.ErrNone)
	puts(t, f, 5, 0, api.OK)
	puts(t, f, 6, 1, api.OK)
	puts(t, f, 7, 0, api.ErrFull)
	has(t, f, 2)
	takes(t, f, 0, 5, api.OK)
	puts(t, f, 7, 2, api.OK)
	takes(t, f, 1, 6, api.OK)
	takes(t, f, 2, 7, api.OK)
	takes(t, f, 0, 0, api.ErrNone)
	has(t, f, 0)
}

func TestAnyValue(t *testing.T) { // 21.2
	f := made(t, 3)
	for i, x := range []uint64{0, 1, math.MaxUint64, 1 << 63, 0, 0} {
		puts(t, f, x, uint64(i), api.OK)
		takes(t, f, uint64(i), x, api.OK)
	}
}

// Whatever is called, one after another: as a plain list has it.
func TestPlainCalls(t *testing.T) { // 21.2, 21.5 to 21.7
	r := rand.New(rand.NewSource(21))
	for range 200 {
		size := 2 + r.Intn(9)
		f := made(t, size)
		var l []uint64
		var put, taken uint64
		bias := 1 + r.Intn(9)
		for range 300 {
			if r.Intn(10) < bias {
				x := r.Uint64() >> r.Intn(64)
				if len(l) == size {
					puts(t, f, x, 0, api.ErrFull)
				} else {
					puts(t, f, x, put, api.OK)
					put++
					l = append(l, x)
				}
			} else if len(l) == 0 {
				takes(t, f, 0, 0, api.ErrNone)
			} else {
				takes(t, f, taken, l[0], api.OK)
				taken++
				l = l[1:]
			}
			has(t, f, uint64(len(l)))
		}
	}
}

func TestNil(t *testing.T) { // 21.4
	var f *feed.Feed
	if got, why := f.Put(5); got != 0 || why != api.ErrNil {
		t.Error("Put to a nil feed:", got, why)
	}
	if got, why := f.Take(); got != (api.Fed{}) || why != api.ErrNil {
		t.Error("Take of a nil feed:", got, why)
	}
	if got := f.Len(); got != 0 {
		t.Error("Len of a nil feed:", got)
	}
	for _, op := range []api.FeedOp{{Kind: api.FeedPut}, {Kind: api.FeedPut, X: 5}, {Kind: api.FeedTake}, {Kind: api.FeedLen}, {}, {Kind: api.FeedTake, X: 1}, {Kind: 255}} {
		if p, why := f.Start(op); p != nil || why != api.ErrNil {
			t.Errorf("Start(%v) of a nil feed: error %d", op, why)
		}
	}
	var p *feed.Pending
	for range 2 {
		if did, ended := p.Step(); did != (api.Did{}) || !ended || !p.Done() {
			t.Error("a nil operation:", did, ended, p.Done())
		}
		if got, why := p.Answer(); got != (api.Fed{}) || why != api.ErrNil {
			t.Error("Answer of a nil operation:", got, why)
		}
	}
}

func TestTwoFeedsAreApart(t *testing.T) { // P4
	a, b := made(t, 2), made(t, 2)
	puts(t, a, 5, 0, api.OK)
	has(t, b, 0)
	takes(t, b, 0, 0, api.ErrNone)
	puts(t, b, 6, 0, api.OK)
	takes(t, a, 0, 5, api.OK)
	takes(t, b, 0, 6, api.OK)
}

// bag is what was told of places by many, each of whom tells its own.
type bag struct {
	values [][]uint64 // of each, by the places below
	places [][]uint64
}

// all are the values by their places, which are from 0 on without gaps.
func (b bag) all(t *testing.T) []uint64 {
	t.Helper()
	at := map[uint64]uint64{}
	for w, places := range b.places {
		for i, place := range places {
			if _, is := at[place]; is {
				t.Fatalf("the place %d was answered twice", place)
			}
			at[place] = b.values[w][i]
		}
	}
	l := make([]uint64, len(at))
	for place, x := range at {
		if place >= uint64(len(l)) {
			t.Fatalf("the place %d, though there were %d", place, len(l))
		}
		l[place] = x
	}
	return l
}

func newBag(n int) bag {
	return bag{make([][]uint64, n), make([][]uint64, n)}
}

func (b bag) tell(w int, place, x uint64) {
	b.places[w] = append(b.places[w], place)
	b.values[w] = append(b.values[w], x)
}

// byMany has writers put and readers take, and holds what they were answered against one another. Each put and take is retried, when it finds no room, or nothing.
func byMany(t *testing.T, f *feed.Feed, size, workers, each int, put func(x uint64) (api.Fed, api.Errno), take func() (api.Fed, api.Errno)) {
	t.Helper()
	written, read := newBag(workers), newBag(workers)
	var all sync.WaitGroup
	for w := range workers {
		all.Go(func() {
			for i := range each {
				x := uint64(w)<<32 | uint64(i)
				fed, why := put(x)
				for ; why != api.OK; fed, why = put(x) {
					if why != api.ErrFull || fed != (api.Fed{}) {
						t.Error("put:", fed, why)
					}
					runtime.Gosched()
				}
				written.tell(w, fed.At, fed.X)
			}
		})
		all.Go(func() {
			for range each {
				if n := f.Len(); n > uint64(size) {
					t.Error("Len:", n)
				}
				fed, why := take()
				for ; why != api.OK; fed, why = take() {
					if why != api.ErrNone || fed != (api.Fed{}) {
						t.Error("take:", fed, why)
					}
					runtime.Gosched()
				}
				read.tell(w, fed.At, fed.X)
			}
		})
	}
	all.Wait()
	if got, want := read.all(t), written.all(t); !slices.Equal(got, want) || len(got) != workers*each {
		t.Error("what was taken, by its places, is not what was put")
	}
	for w := range workers {
		for i, x := range written.values[w] {
			if x != uint64(w)<<32|uint64(i) {
				t.Fatal("a put answers another value:", x)
			}
		}
		if !slices.IsSorted(written.places[w]) || !slices.IsSorted(read.places[w]) {
			t.Error("places of one behind another do not rise")
		}
	}
	has(t, f, 0)
	takes(t, f, 0, 0, api.ErrNone)
	puts(t, f, 1, uint64(workers*each), api.OK)
}

func TestPlainCallsByMany(t *testing.T) { // 21.2, 21.5, 21.6
	for _, size := range []int{2, 3, 64} {
		f := made(t, size)
		put := func(x uint64) (api.Fed, api.Errno) {
			place, why := f.Put(x)
			if why != api.OK {
				x = 0
			}
			return api.Fed{At: place, X: x}, why
		}
		byMany(t, f, size, 4, 2000, put, f.Take)
	}
}
