package hist_test

import (
	"math"
	"slices"
	"sync"
	"testing"

	"abacus/api"
	"abacus/hist"
	"abacus/scale"
)

// example is the scale of the document's examples.
var example = api.Scale{Lowest: 1, Highest: 1000, Digits: 1}

// most has the most buckets of all scales.
var most = api.Scale{Lowest: 1, Highest: api.MaxAt, Digits: 3}

// wrong are scales that are not right.
var wrong = []api.Scale{{}, {Lowest: 1, Highest: 1, Digits: 1}, {Lowest: 0, Highest: 1000, Digits: 1}, {Lowest: 1, Highest: api.MaxAt + 1, Digits: 1}, {Lowest: 1, Highest: 1000, Digits: 4}}

func made(t *testing.T, s api.Scale) *hist.Hist {
	t.Helper()
	h, why := hist.New(s)
	if h == nil || why != api.OK {
		t.Fatalf("New(%v): error %d", s, why)
	}
	return h
}

func records(t *testing.T, h *hist.Hist, v int64, n uint64) {
	t.Helper()
	if why := h.Record(v, n); why != api.OK {
		t.Errorf("Record(%d, %d): error %d", v, n, why)
	}
}

func alike(a, b api.Shot) bool {
	return a.Count == b.Count && a.Sum == b.Sum && a.Least == b.Least && a.Greatest == b.Greatest && slices.Equal(a.Buckets, b.Buckets)
}

func isZero(x api.Shot) bool {
	return x.Count == 0 && x.Sum == 0 && x.Least == 0 && x.Greatest == 0 && len(x.Buckets) == 0
}

func shows(t *testing.T, h *hist.Hist, want api.Shot) {
	t.Helper()
	if got := h.Show(); !alike(got, want) {
		t.Errorf("Show: %v, want %v", got, want)
	}
}

// record is a number, so many times.
type record struct {
	v int64
	n uint64
}

// shot is the snapshot of these records, as the document tells it.
func shot(s api.Scale, l ...record) api.Shot {
	n, _ := scale.Count(s)
	x := api.Shot{Least: -1, Greatest: -1, Buckets: make([]uint64, n)}
	for _, r := range l {
		i, _ := scale.Index(s, r.v)
		x.Buckets[i] += r.n
		x.Count += r.n
		x.Sum += uint64(r.v) * r.n
		if x.Least < 0 || r.v < x.Least {
			x.Least = r.v
		}
		if r.v > x.Greatest {
			x.Greatest = r.v
		}
	}
	return x
}

func TestNew(t *testing.T) { // 10.1
	for _, s := range wrong {
		if h, why := hist.New(s); h != nil || why != api.ErrScale {
			t.Errorf("New(%v): error %d", s, why)
		}
	}
	for _, s := range []api.Scale{example, {Lowest: 1, Highest: 2, Digits: 1}, {Lowest: api.MaxLowest, Highest: api.MaxAt, Digits: 2}, most} {
		h := made(t, s)
		n, _ := scale.Count(s)
		want := make([]uint64, n+4)
		want[n+1] = math.MaxUint64
		if got := h.All(); !slices.Equal(got, want) {
			t.Errorf("All of a new one: %v", got)
		}
		shows(t, h, shot(s))
	}
}

func TestExampleOfTwoNumbers(t *testing.T) { // 10.2, example 1
	h := made(t, example)
	records(t, h, 63, 2)
	records(t, h, 5, 1)
	buckets := make([]uint64, 112)
	buckets[5], buckets[47] = 1, 2
	shows(t, h, api.Shot{Count: 3, Sum: 131, Least: 5, Greatest: 63, Buckets: buckets})
	if got := h.All(); !slices.Equal(got, append(buckets, 131, 5, 64, 3)) {
		t.Error("All:", got)
	}
	for _, x := range []record{{-1, 1}, {1, 0}, {1001, 1}} {
		if why := h.Record(x.v, x.n); why != api.ErrRange {
			t.Errorf("Record(%d, %d): error %d", x.v, x.n, why)
		}
	}
}

func TestRecord(t *testing.T) { // 10.2
	h := made(t, example)
	refuses := func() {
		t.Helper()
		before := h.All()
		for _, x := range []record{{-1, 1}, {math.MinInt64, 1}, {1001, 1}, {1023, 1}, {math.MaxInt64, 1}, {0, 0}, {1, 0}, {1000, 0}, {-1, 0}, {1001, 0}} {
			if why := h.Record(x.v, x.n); why != api.ErrRange {
				t.Errorf("Record(%d, %d): error %d", x.v, x.n, why)
			}
		}
		if got := h.All(); !slices.Equal(got, before) {
			t.Errorf("a refused call changes %v to %v", before, got)
		}
	}
	refuses()
	var l []record
	for _, x := range []record{{500, 1}, {500, 3}, {0, 1}, {1000, 2}, {999, 1}, {1, 1 << 40}, {32, 5}, {33, 7}} {
		records(t, h, x.v, x.n)
		l = append(l, x)
		shows(t, h, shot(example, l...))
	}
	refuses()
}

func TestLeastAndGreatest(t *testing.T) { // 10.2
	for _, l := range [][]record{{{0, 1}}, {{1000, 1}}, {{0, 1}, {0, 1}}, {{5, 1}, {4, 1}, {6, 1}}, {{1000, 1}, {0, 1}}, {{0, 1}, {1000, 1}}, {{7, 1}, {7, 2}, {6, 1}, {7, 1}, {8, 1}, {7, 1}}} {
		h := made(t, example)
		for i, x := range l {
			records(t, h, x.v, x.n)
			shows(t, h, shot(example, l[:i+1]...))
		}
	}
}

// Counts and sums go round at 2^64.
func TestGoesRound(t *testing.T) { // 10.2
	h := made(t, most)
	l := []record{{api.MaxAt, 7}, {api.MaxAt, 2}, {api.MaxAt - 1, math.MaxUint64}, {3, 1 << 63}, {3, 1 << 63}}
	for i, x := range l {
		records(t, h, x.v, x.n)
		shows(t, h, shot(most, l[:i+1]...))
	}
	if got := h.Show(); got.Count != 8 || got.Buckets[3] != 0 || got.Least != 3 {
		t.Error("behind 2^64:", got.Count, got.Buckets[3], got.Least)
	}
}

func TestNil(t *testing.T) { // 10.6, P1
	var h *hist.Hist
	if h.All() != nil || !isZero(h.Show()) || h.Record(1, 1) != api.ErrNil || h.Record(-1, 0) != api.ErrNil {
		t.Error("a nil histogram:", h.All(), h.Show())
	}
	for _, op := range []api.HistOp{{}, {Kind: api.HistRecord, V: 1, N: 1}, {Kind: api.HistShow}} {
		if p, why := h.Start(op); p != nil || why != api.ErrNil {
			t.Errorf("Start(%v) of a nil histogram: error %d", op, why)
		}
	}
	var p *hist.Pending
	if did, ended := p.Step(); did != (api.Did{}) || !ended || !p.Done() || !isZero(p.Answer()) {
		t.Error("a nil Pending:", did, ended, p.Done(), p.Answer())
	}
}

// spoil writes to all that a list has, its spare room included.
func spoil(l []uint64) {
	l = l[:cap(l)]
	for i := range l {
		l[i] = 77
	}
}

func TestNewMemory(t *testing.T) { // 10.6
	h := made(t, example)
	records(t, h, 63, 2)
	want := shot(example, record{63, 2})
	p, _ := h.Start(api.HistOp{Kind: api.HistShow})
	for !p.Done() {
		p.Step()
	}
	for range 2 {
		spoil(h.All())
		spoil(h.Show().Buckets)
		spoil(p.Answer().Buckets)
		shows(t, h, want)
		if !alike(p.Answer(), want) {
			t.Error("Answer:", p.Answer())
		}
	}
	x, y := shot(example, record{63, 2}), shot(example)
	for range 2 {
		for _, l := range [][2]api.Shot{{x, y}, {y, x}, {x, x}, {y, y}} {
			both, why := hist.Merge(example, l[0], l[1])
			if why != api.OK {
				t.Fatal("Merge: error", why)
			}
			spoil(both.Buckets)
		}
		if !alike(x, want) || !alike(y, shot(example)) {
			t.Fatal("Merge shares what it was handed:", x, y)
		}
	}
}

func TestByMany(t *testing.T) { // 10.2, 10.7 to 10.9
	const workers, each = 8, 2000
	h := made(t, example)
	var wait, looking sync.WaitGroup
	stop := make(chan struct{})
	for range 2 {
		looking.Go(func() {
			last := shot(example)
			for {
				x := h.Show()
				if what := falls(last, x); what != "" || x.Count > sum(x.Buckets) {
					t.Errorf("%s: from %v to %v", what, last, x)
					return
				}
				last = x
				select {
				case <-stop:
					return
				default:
				}
			}
		})
	}
	var l []record
	for n := range workers {
		for i := range each {
			l = append(l, record{int64((i*37 + n*101) % 1001), uint64(1 + i%3)})
		}
	}
	for n := range workers {
		wait.Go(func() {
			for _, x := range l[n*each : (n+1)*each] {
				records(t, h, x.v, x.n)
			}
		})
	}
	wait.Wait()
	close(stop)
	looking.Wait()
	shows(t, h, shot(example, l...))
	if why := hist.Check(example, h.Show()); why != api.OK {
		t.Error("Check of what is still: error", why)
	}
}

func sum(l []uint64) uint64 {
	var s uint64
	for _, n := range l {
		s += n
	}
	return s
}

// falls tells what of a later snapshot is less than of an earlier one, or whose least is greater.
func falls(a, b api.Shot) string {
	switch {
	case b.Count < a.Count:
		return "Count falls"
	case b.Greatest < a.Greatest:
		return "Greatest falls"
	case a.Least >= 0 && (b.Least < 0 || b.Least > a.Least):
		return "Least rises"
	}
	for i, n := range a.Buckets {
		if b.Buckets[i] < n {
			return "a bucket falls"
		}
	}
	return ""
}

func TestStepsByMany(t *testing.T) { // 10.3, 10.7
	const workers, each = 8, 300
	h := made(t, example)
	var wait sync.WaitGroup
	for n := range workers {
		wait.Go(func() {
			for i := range each {
				p, why := h.Start(api.HistOp{Kind: api.HistRecord, V: int64(i + n), N: 1})
				for ended := why != api.OK; !ended; {
					_, ended = p.Step()
				}
			}
		})
	}
	wait.Wait()
	var l []record
	for n := range workers {
		for i := range each {
			l = append(l, record{int64(i + n), 1})
		}
	}
	shows(t, h, shot(example, l...))
}
