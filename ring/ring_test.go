package ring_test

import (
	"math"
	"math/rand"
	"slices"
	"sync"
	"testing"

	"abacus/api"
	"abacus/ring"
)

const (
	lastTick = api.MaxTick
	most     = api.MaxTally
)

func made(t *testing.T, slots int, width int64) *ring.Ring {
	t.Helper()
	r, why := ring.New(slots, width)
	if r == nil || why != api.OK {
		t.Fatalf("New(%d, %d): error %d", slots, width, why)
	}
	return r
}

func adds(t *testing.T, r *ring.Ring, at int64, n uint64, want api.Errno) {
	t.Helper()
	if why := r.Add(at, n); why != want {
		t.Errorf("Add(%d, %d): error %d, want %d", at, n, why, want)
	}
}

// shows holds Each against what is wanted, and Sum against what that comes to.
func shows(t *testing.T, r *ring.Ring, at int64, want ...uint64) {
	t.Helper()
	if got, why := r.Each(at); !slices.Equal(got, want) || why != api.OK {
		t.Errorf("Each(%d): %v, error %d, want %v", at, got, why, want)
	}
	if got, why := r.Sum(at); got != total(want) || why != api.OK {
		t.Errorf("Sum(%d): %d, error %d, want %d", at, got, why, total(want))
	}
}

func total(l []uint64) uint64 {
	var sum uint64
	for _, x := range l {
		sum += x
	}
	return sum
}

func TestNew(t *testing.T) { // 5.1
	for _, x := range []struct {
		slots int
		width int64
		want  api.Errno
	}{
		{1, 1, api.OK}, {3, 10, api.OK}, {api.MaxSlots, 1, api.OK}, {1, api.MaxWidth, api.OK}, {api.MaxSlots, api.MaxWidth, api.OK},
		{0, 1, api.ErrRange}, {-1, 1, api.ErrRange}, {math.MinInt, 1, api.ErrRange}, {api.MaxSlots + 1, 1, api.ErrRange}, {math.MaxInt, 1, api.ErrRange},
		{1, 0, api.ErrRange}, {1, -1, api.ErrRange}, {1, math.MinInt64, api.ErrRange}, {1, api.MaxWidth + 1, api.ErrRange}, {1, math.MaxInt64, api.ErrRange},
		{0, 0, api.ErrRange},
	} {
		r, why := ring.New(x.slots, x.width)
		if why != x.want || (r != nil) != (x.want == api.OK) {
			t.Errorf("New(%d, %d): %v, error %d", x.slots, x.width, r, why)
		}
	}
	r := made(t, 3, 10)
	for _, at := range []int64{0, 9, 29, 12345} {
		if got, why := r.Sum(at); got != 0 || why != api.OK {
			t.Errorf("a new window has %d at %d, error %d", got, at, why)
		}
	}
}

func TestExamples(t *testing.T) { // examples 1 and 2
	r := made(t, 3, 10)
	adds(t, r, 0, 5, api.OK)
	adds(t, r, 12, 1, api.OK)
	adds(t, r, 29, 2, api.OK)
	shows(t, r, 29, 5, 1, 2)
	shows(t, r, 30, 1, 2, 0)
	adds(t, r, 30, 4, api.OK)
	shows(t, r, 30, 1, 2, 4)
	adds(t, r, 5, 1, api.ErrLate)
	shows(t, r, 5, 0)

	r = made(t, 1, 1)
	adds(t, r, 0, 4294967295, api.OK)
	adds(t, r, 0, 1, api.ErrFull)
	adds(t, r, 1, 1, api.OK)
	adds(t, r, -1, 1, api.ErrRange)
	adds(t, r, 4294967296, 1, api.ErrRange)
	shows(t, r, 1, 1)
}

func TestTicks(t *testing.T) { // the words, 5.3
	for _, x := range []struct {
		width, at int64
		tick      int64
	}{
		{1, 0, 0}, {1, lastTick, lastTick},
		{10, 9, 0}, {10, 10, 1}, {10, 10*lastTick + 9, lastTick},
		{api.MaxWidth, api.MaxWidth - 1, 0}, {api.MaxWidth, api.MaxWidth, 1}, {api.MaxWidth, math.MaxInt64, 7},
		{1 << 31, math.MaxInt64, lastTick},
	} {
		r := made(t, 1, x.width)
		adds(t, r, x.at, 3, api.OK)
		first, last := x.tick*x.width, x.tick*x.width+(x.width-1) // the slot's own moments
		for _, at := range []int64{first, x.at, last} {
			shows(t, r, at, 3)
		}
		if first > 0 {
			shows(t, r, first-1, 0)
			adds(t, r, first-1, 1, api.ErrLate)
		}
		if last < math.MaxInt64 && x.tick < lastTick {
			shows(t, r, last+1, 0)
			adds(t, r, last+1, 1, api.OK)
			shows(t, r, last, 0) // the only cell was turned over
		}
	}
}

func TestRefuses(t *testing.T) { // 5.2, 5.3: Start's errors
	for _, x := range []struct {
		width, at int64
		n         uint64
	}{
		{1, -1, 0}, {1, math.MinInt64, 1}, {10, -1, 1}, {10, -9, 1}, {api.MaxWidth, -1, 1},
		{1, lastTick + 1, 1}, {1, math.MaxInt64, 1}, {10, 10 * (lastTick + 1), 1}, {1<<31 - 1, math.MaxInt64, 1},
		{1, 0, most + 1}, {1, 0, math.MaxUint64}, {1, -1, most + 1},
	} {
		r := made(t, 2, x.width)
		adds(t, r, 0, 7, api.OK)
		adds(t, r, x.at, x.n, api.ErrRange)
		shows(t, r, 0, 7)
		if x.n > most {
			continue
		}
		if got, why := r.Sum(x.at); got != 0 || why != api.ErrRange {
			t.Errorf("Sum(%d) of width %d: %d, error %d", x.at, x.width, got, why)
		}
		if got, why := r.Each(x.at); len(got) != 0 || why != api.ErrRange {
			t.Errorf("Each(%d) of width %d: %v, error %d", x.at, x.width, got, why)
		}
	}
}

func TestFull(t *testing.T) { // 5.3, 5.8
	r := made(t, 2, 1)
	adds(t, r, 4, most, api.OK)
	adds(t, r, 4, 0, api.OK)
	for _, n := range []uint64{1, most} {
		adds(t, r, 4, n, api.ErrFull)
		shows(t, r, 4, 0, most)
	}
	adds(t, r, 5, most-1, api.OK)
	adds(t, r, 5, 2, api.ErrFull)
	adds(t, r, 5, 1, api.OK)
	adds(t, r, 5, 1, api.ErrFull)
	shows(t, r, 5, most, most) // a sum that is more than a slot can hold
	adds(t, r, 6, most, api.OK)
	shows(t, r, 6, most, most)
	adds(t, r, 4, 1, api.ErrLate) // late, however full
	adds(t, r, 4, 0, api.ErrLate)
}

func TestTurns(t *testing.T) { // 5.3, 5.8
	r := made(t, 3, 1)
	adds(t, r, 7, 5, api.OK) // times stand still and go back, within the window
	adds(t, r, 7, 1, api.OK)
	adds(t, r, 5, 2, api.OK)
	adds(t, r, 6, 3, api.OK)
	shows(t, r, 7, 2, 3, 6)
	shows(t, r, 6, 0, 2, 3) // tick 4 would be in the cell that serves 7
	shows(t, r, 5, 0, 0, 2)
	adds(t, r, 4, 9, api.ErrLate)
	adds(t, r, 1, 9, api.ErrLate)
	adds(t, r, 3, 9, api.ErrLate)
	shows(t, r, 7, 2, 3, 6)
	adds(t, r, 9, 0, api.OK) // nothing is counted, but the cell is turned over
	shows(t, r, 9, 6, 0, 0)
	shows(t, r, 7, 2, 0, 6)
	adds(t, r, 6, 1, api.ErrLate)
	adds(t, r, 5, 4, api.OK) // the window is past it, but its cell serves it as yet
	shows(t, r, 7, 6, 0, 6)
	adds(t, r, 1000, 1, api.OK)
	shows(t, r, 1000, 0, 0, 1)
	shows(t, r, 9, 0, 0, 0)
	shows(t, r, 7, 6, 0, 0) // 1000 has taken the cell of 7 alone
	adds(t, r, lastTick, 8, api.OK)
	shows(t, r, lastTick, 0, 0, 8)
}

func TestWindowFromNought(t *testing.T) { // the words: the window has no ticks below 0
	r := made(t, 4, 10)
	for i, want := range [][]uint64{{1}, {1, 2}, {1, 2, 3}, {1, 2, 3, 4}, {2, 3, 4, 5}} {
		adds(t, r, int64(10*i+i), uint64(i+1), api.OK)
		shows(t, r, int64(10*i+9-i), want...)
	}
	r = made(t, api.MaxSlots, 1)
	adds(t, r, api.MaxSlots-1, 3, api.OK)
	if l, why := r.Each(api.MaxSlots - 1); len(l) != api.MaxSlots || l[api.MaxSlots-1] != 3 || total(l) != 3 || why != api.OK {
		t.Error("Each of all slots:", len(l), total(l), why)
	}
	if l, _ := r.Each(api.MaxSlots); len(l) != api.MaxSlots || l[api.MaxSlots-2] != 3 {
		t.Error("Each a tick later:", len(l))
	}
}

// model keeps what was counted by tick, and the latest tick of each slot.
type model struct {
	slots  int64
	width  int64
	serves map[int64]int64
	counts map[int64]uint64
}

func (m *model) add(at int64, n uint64) api.Errno {
	tick := at / m.width
	serves, begun := m.serves[tick%m.slots]
	switch {
	case serves > tick:
		return api.ErrLate
	case m.counts[tick]+n > most:
		return api.ErrFull
	case begun && serves < tick:
		delete(m.counts, serves)
	}
	m.serves[tick%m.slots] = tick
	m.counts[tick] += n
	return api.OK
}

func (m *model) each(at int64) []uint64 {
	var l []uint64
	last := at / m.width
	for tick := max(0, last-m.slots+1); tick <= last; tick++ {
		l = append(l, m.counts[tick])
	}
	return l
}

func TestPlainCallsAgainstTheModel(t *testing.T) { // 5.3, 5.8
	r := rand.New(rand.NewSource(1))
	seen := map[api.Errno]int{}
	for range 500 {
		slots, width := 1+r.Intn(6), 1+r.Int63n(20)
		m := &model{int64(slots), width, map[int64]int64{}, map[int64]uint64{}}
		x := made(t, slots, width)
		now := r.Int63n(width * 5)
		for range 100 {
			now = max(0, now+r.Int63n(4*width)-3*width/2)
			n := uint64(r.Intn(5))
			if r.Intn(4) == 0 {
				n = most - uint64(r.Intn(5))
			}
			want := m.add(now, n)
			seen[want]++
			adds(t, x, now, n, want)
			at := max(0, now+r.Int63n(4*width)-2*width)
			shows(t, x, at, m.each(at)...)
			if t.Failed() {
				t.Fatalf("%d slots of %d", slots, width)
			}
		}
	}
	if seen[api.OK] == 0 || seen[api.ErrLate] == 0 || seen[api.ErrFull] == 0 {
		t.Error("something never came:", seen)
	}
}

func TestNil(t *testing.T) { // 5.5
	var r *ring.Ring
	for _, at := range []int64{0, -1, math.MaxInt64} {
		adds(t, r, at, 1, api.ErrNil)
		if got, why := r.Sum(at); got != 0 || why != api.ErrNil {
			t.Errorf("Sum(%d) of a nil ring: %d, error %d", at, got, why)
		}
		if got, why := r.Each(at); len(got) != 0 || why != api.ErrNil {
			t.Errorf("Each(%d) of a nil ring: %v, error %d", at, got, why)
		}
	}
	for _, op := range []api.RingOp{{Kind: api.RingSum}, {}, {Kind: api.RingAdd, T: -1}} {
		if p, why := r.Start(op); p != nil || why != api.ErrNil {
			t.Errorf("Start(%v) of a nil ring: error %d", op, why)
		}
	}
	var p *ring.Pending
	for range 2 {
		if did, ended := p.Step(); did != (api.Did{}) || !ended || !p.Done() {
			t.Error("Step of a nil operation:", did, ended, p.Done())
		}
		if got, why := p.Answer(); got != 0 || why != api.ErrNil {
			t.Error("Answer of a nil operation:", got, why)
		}
	}
}

func TestAnswersAreNewMemory(t *testing.T) { // 5.5
	r := made(t, 2, 1)
	adds(t, r, 0, 1, api.OK)
	adds(t, r, 1, 2, api.OK)
	first, _ := r.Each(1)
	first[0] = 99
	first = append(first, 7)
	shows(t, r, 1, 1, 2)
	if second, _ := r.Each(1); first[0] != 99 || &second[0] == &first[0] {
		t.Error("two answers share memory")
	}
}

func TestTwoRingsAreApart(t *testing.T) { // P4
	a, b := made(t, 2, 1), made(t, 2, 1)
	adds(t, b, 0, 1, api.OK)
	adds(t, a, 0, 5, api.OK)
	adds(t, a, 2, 5, api.OK)
	shows(t, b, 0, 1)
}

func TestPlainCallsByMany(t *testing.T) { // P4, 5.6, 5.7
	const workers, each, slots = 8, 3000, 4
	r := made(t, slots, 10)
	var wait sync.WaitGroup
	for worker := range workers {
		wait.Go(func() {
			for i := range each {
				if why := r.Add(int64((worker+i)%slots*10+i%10), 3); why != api.OK {
					t.Error("Add:", why)
				}
			}
		})
	}
	wait.Go(func() {
		var last uint64
		for range each {
			sum, why := r.Sum(slots*10 - 1)
			l, _ := r.Each(slots*10 - 1)
			if sum < last || total(l) < sum || total(l)%3 != 0 || why != api.OK {
				t.Errorf("Sum %d behind %d, Each %v, error %d", sum, last, l, why)
			}
			last = total(l)
		}
	})
	wait.Wait()
	shows(t, r, slots*10-1, slices.Repeat([]uint64{3 * workers * each / slots}, slots)...)
}

func TestTurnedByMany(t *testing.T) { // 5.8: while cells are turned over by many, each count is put in its own tick, or late
	const workers, each, slots = 8, 2000, 3
	r := made(t, slots, 1)
	counted := make([][each]uint64, workers)
	var wait sync.WaitGroup
	for worker := range workers {
		wait.Go(func() {
			for tick := range each {
				switch why := r.Add(int64(tick), 1); why {
				case api.OK:
					counted[worker][tick]++
				case api.ErrLate:
				default:
					t.Error("Add:", why)
				}
			}
		})
	}
	wait.Wait()
	var want []uint64
	for tick := each - slots; tick < each; tick++ {
		var n uint64
		for worker := range workers {
			n += counted[worker][tick]
		}
		want = append(want, n)
	}
	shows(t, r, each-1, want...)
}
