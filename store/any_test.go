package store_test

import (
	"math/rand"
	"runtime"
	"slices"
	"strconv"
	"sync"
	"testing"

	"abacus/api"
	"abacus/store"
)

// pool are sets, few enough that they come again.
var pool = [][]api.Label{nil, a, b, of("a", "x", "b", "x"), of("a1", "x"), of("a", "x\""), wrongSets[0]}

// moment is one that is near others, near the floor, or none.
func moment(r *rand.Rand, floor int64) int64 {
	switch r.Intn(12) {
	case 0:
		return []int64{-1, 0, api.MaxAt, api.MaxAt + 1}[r.Intn(4)]
	case 1, 2, 3:
		return floor + int64(r.Intn(5)-2)
	}
	return floor + int64(r.Intn(200)) - 60
}

// trial is a store beside its model, and beside one that is told the same, but to which no Trim comes.
type trial struct {
	t        *testing.T
	r        *rand.Rand
	s, never *store.Store
	m        *model
}

func (x *trial) trim() {
	before := moment(x.r, x.m.floor)
	if before > 1<<40 {
		before = -1 // a floor as high would end all
	}
	trims(x.t, x.s, before, x.m.trim(before), x.m.floor)
}

func (x *trial) dots(set []api.Label) { // 20.4, 20.10
	from, to, width := moment(x.r, x.m.floor), moment(x.r, x.m.floor), x.m.width
	want, why := x.m.between(set, from, to)
	tells(x.t, x.s, set, from, to, why, want...)
	if why == api.OK && from%width == 0 && to%width == 0 {
		rolls(x.t, x.s, set, from, to, width, api.OK, cellsOf(want, from, to, width)...)
	}
}

func (x *trial) rolls(set []api.Label) { // 20.5, 20.8
	r := x.r
	w := x.m.width * int64(1+r.Intn(5))
	from, to := max(-1, moment(r, x.m.floor))/w*w, moment(r, x.m.floor)/w*w
	switch r.Intn(12) {
	case 0:
		from++
	case 1:
		to--
	case 2:
		w += int64(r.Intn(3)) - 1
	}
	want, why := x.m.rolls(set, from, to, w)
	rolls(x.t, x.s, set, from, to, w, why, want...)
	rolls(x.t, x.never, set, from, to, w, why, want...)
}

func (x *trial) series() { // 20.4, 20.8
	for _, want := range [][]api.Match{nil, {{Kind: api.MatchIs, Name: "a", Value: "x"}}, {{Kind: api.MatchNot, Name: "b", Value: "x"}}} {
		sets(x.t, x.s, want, api.OK, x.m.series(want)...)
		sets(x.t, x.never, want, api.OK, x.m.series(want)...)
	}
}

func (x *trial) put(set []api.Label) { // 20.2, 20.8
	r := x.r
	next := x.m.floor
	if i := x.m.find(set); i >= 0 {
		next = max(next, x.m.dots[i][len(x.m.dots[i])-1].At)
	}
	d := api.Dot{At: next + int64(r.Intn(9)) - 1, V: someValue(r)}
	if r.Intn(8) == 0 {
		d.At = moment(r, x.m.floor)
	}
	if d.At > 1<<40 {
		d.At = -1
	}
	if r.Intn(30) == 0 {
		d.V = nan
	}
	why := x.m.put(set, d)
	refused(x.t, x.s, set, d.At, d.V, why)
	if why == api.OK {
		refused(x.t, x.never, set, d.At, d.V, api.OK)
	}
}

// joins holds coarser cells against finer ones that are joined.
func (x *trial) joins(set []api.Label) { // 20.9
	r := x.r
	w := x.m.width * int64(1+r.Intn(4))
	k := int64(1 + r.Intn(5))
	from := int64(r.Intn(3)) * k * w
	to := from + int64(r.Intn(60))*k*w
	fine, _ := x.s.Rolls(set, from, to, w)
	rough, why := x.s.Rolls(set, from, to, k*w)
	if why != api.OK {
		x.t.Errorf("Rolls(%v, %d, %d, %d): error %d", set, from, to, k*w, why)
	}
	coarse(x.t, fine, k*w, api.OK, rough...)
}

func TestStoreOfAny(t *testing.T) { // 20.2 to 20.6, 20.8 to 20.10, P2, P3
	r := rand.New(rand.NewSource(20))
	for range 60 {
		width := 1 + int64(r.Intn(12))
		x := &trial{t: t, r: r, s: made(t, width), never: made(t, width), m: &model{width: width}}
		for n := 0; n < 400 && !t.Failed(); n++ {
			set := pool[r.Intn(len(pool))]
			switch r.Intn(9) {
			case 0:
				x.trim()
			case 1, 2:
				x.dots(set)
			case 3, 4:
				x.rolls(set)
			case 5:
				x.series()
			default:
				x.put(set)
			}
		}
		for _, set := range x.m.sets {
			for range 20 {
				x.joins(set)
			}
		}
	}
}

func TestTrimsThatComeOften(t *testing.T) { // 20.3, 20.8: what is kept of dots goes on to grow
	r := rand.New(rand.NewSource(8))
	s := made(t, 4)
	var all []api.Dot
	for at := int64(0); at < 4000; at += 1 + int64(r.Intn(3)) {
		d := api.Dot{At: at, V: someValue(r)}
		all = append(all, d)
		puts(t, s, a, d)
		if before := max(0, at-int64(r.Intn(60))); r.Intn(2) == 0 {
			s.Trim(before)
		}
		if r.Intn(50) == 0 {
			w := 4 * int64(1+r.Intn(30))
			from, to := int64(r.Intn(10))*w, (at/w+1)*w
			if from <= to {
				rolls(t, s, a, from, to, w, api.OK, cellsOf(all, from, to, w)...)
			}
			floor := s.Floor()
			tells(t, s, a, floor, at+1, api.OK, slices.DeleteFunc(slices.Clone(all), func(d api.Dot) bool { return d.At < floor })...)
		}
	}
}

func TestManyAtOneTime(t *testing.T) { // 20.7, P4
	s := made(t, 10)
	const workers, each = 16, 400
	value := func(w, n int) float64 { return float64(w*n) / 3 }
	var all sync.WaitGroup
	for w := range workers {
		all.Add(1)
		go func() {
			defer all.Done()
			mine := of("w", strconv.Itoa(w))
			var put []api.Dot
			for n := range each {
				d := api.Dot{At: int64(n) * 3, V: value(w, n)}
				why := s.Append(mine, d)
				if why == api.ErrOld && d.At < s.Floor() { // the floor went by
					continue
				}
				if why != api.OK {
					t.Errorf("Append(%v): error %d", d, why)
				}
				put = append(put, d)
				if n%40 == w { // what one has put is told in whole, whatever is trimmed meanwhile
					to := d.At/20*20 + 20
					if got, why := s.Rolls(mine, 0, to, 20); !sameRolls(got, cellsOf(put, 0, to, 20)) || why != api.OK {
						t.Errorf("Rolls of %d dots: %v, error %d", len(put), short(got), why)
					}
				}
				if n%100 == 50+w {
					s.Trim(int64(n))
				}
				if sets, why := s.Series([]api.Match{{Kind: api.MatchIs, Name: "w", Value: strconv.Itoa(w)}}); len(sets) != 1 || why != api.OK {
					t.Errorf("Series: %v, error %d", sets, why)
				}
				if got, why := s.Dots(mine, d.At, d.At+1); why == api.OK && len(got) != 1 || why != api.OK && why != api.ErrGone {
					t.Errorf("Dots at %d: %v, error %d", d.At, got, why)
				}
			}
			if got, _ := s.Rolls(mine, 0, 3*each, 3*each); !sameRolls(got, cellsOf(put, 0, 3*each, 3*each)) {
				t.Errorf("at the end of %d dots: %v", len(put), short(got))
			}
		}()
	}
	all.Wait()
	if sets, why := s.Series(nil); len(sets) != workers || why != api.OK {
		t.Errorf("Series: %d of them, error %d", len(sets), why)
	}
}

func TestOneSeriesOfMany(t *testing.T) { // 20.7: each Append is done whole
	s := made(t, 7)
	const workers, each = 8, 300
	taken := make([]int, workers)
	var all sync.WaitGroup
	for w := range workers {
		all.Add(1)
		go func() {
			defer all.Done()
			for n := range each {
				switch s.Append(a, api.Dot{At: int64(n*workers + w), V: 1}) {
				case api.OK:
					taken[w]++
				case api.ErrOld:
				default:
					t.Error("Append is refused")
				}
			}
		}()
	}
	all.Wait()
	sum := 0
	for _, n := range taken {
		sum += n
	}
	got, why := s.Dots(a, 0, workers*each)
	if len(got) != sum || why != api.OK || !slices.IsSortedFunc(got, func(x, y api.Dot) int { return int(x.At - y.At) }) {
		t.Errorf("%d dots are there, %d were put, error %d", len(got), sum, why)
	}
	if cells, _ := s.Rolls(a, 0, 7*1000, 7*1000); len(cells) != 1 || cells[0].Count != uint64(sum) {
		t.Errorf("what they come to: %v, %d were put", short(cells), sum)
	}
}

func TestManySeriesAtOneTime(t *testing.T) { // 20.2, 20.7: as many as may be, not one more
	s := made(t, 1)
	const workers = 8
	made := make([]int, workers)
	var all sync.WaitGroup
	for w := range workers {
		all.Add(1)
		go func() {
			defer all.Done()
			for n := range api.MaxSeries/workers + 5 {
				if s.Append(number(n*workers+w), api.Dot{At: 1}) == api.OK {
					made[w]++
				}
			}
		}()
	}
	all.Wait()
	sum := 0
	for _, n := range made {
		sum += n
	}
	if got, _ := s.Series(nil); sum != api.MaxSeries || len(got) != api.MaxSeries {
		t.Errorf("%d series were made, %d are there", sum, len(got))
	}
}

func TestWhatWasTrimmedIsGone(t *testing.T) { // 20.3: it is not kept
	held := func() int64 {
		var m runtime.MemStats
		runtime.GC()
		runtime.GC() // what is freed by way of a pool takes two
		runtime.ReadMemStats(&m)
		return int64(m.HeapAlloc)
	}
	s := made(t, 1<<30)
	before := held()
	for n := range 64 {
		for at := range int64(1 << 12) {
			s.Append(number(n), api.Dot{At: at << 10, V: 1})
		}
	}
	full := held()
	s.Trim(1 << 30)
	if left := held(); left-before > (full-before)/10 {
		t.Errorf("of %d bytes %d are left", full-before, left-before)
	}
	runtime.KeepAlive(s)
}
