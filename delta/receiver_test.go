package delta_test

import (
	"fmt"
	"math"
	"math/rand"
	"slices"
	"strings"
	"sync"
	"testing"

	"abacus/api"
	"abacus/delta"
)

func TestTake(t *testing.T) { // 24.5, example 3
	r := delta.NewReceiver()
	totals(t, r, "s", 0, false)
	sums(t, r)
	takes(t, r, push("s", 2, changes("a 2")), 0, api.ErrGap)
	totals(t, r, "s", 0, false)
	takes(t, r, push("s", 1, changes("a 1")), 1, api.OK)
	takes(t, r, push("s", 1, changes("a 1")), 1, api.ErrAgain)
	takes(t, r, push("s", 2, changes("a 2")), 2, api.OK)
	totals(t, r, "s", 2, true, counts("a 3")...)
	takes(t, r, push("s", 3, nil), 3, api.OK) // a push without changes is one, too
	takes(t, r, push("s", 4, changes("a gone, b 0 reset, c 5 reset, d gone")), 4, api.OK)
	totals(t, r, "s", 4, true, counts("a 3, b 0, c 5")...) // what is gone stays, what began anew goes on
	takes(t, r, push("s", 5, changes("a 2, c 1 reset")), 5, api.OK)
	totals(t, r, "s", 5, true, counts("a 5, b 0, c 6")...)
	for n := range uint64(6) {
		if n > 0 {
			takes(t, r, push("s", n, changes("z 1")), 5, api.ErrAgain)
		}
		takes(t, r, push("s", 7+n, changes("z 1")), 5, api.ErrGap)
	}
	takes(t, r, push("s", math.MaxUint64, nil), 5, api.ErrGap)
	totals(t, r, "s", 5, true, counts("a 5, b 0, c 6")...)
	sums(t, r, counts("a 5, b 0, c 6")...)
}

func TestTakeRefuses(t *testing.T) { // 24.5, P2
	r := delta.NewReceiver()
	takes(t, r, push("s", 1, changes("a 1")), 1, api.OK)
	for _, source := range noSources {
		for _, n := range []uint64{0, 1, 2} {
			takes(t, r, push(source, n, changes("a 1")), 0, api.ErrPush)
		}
		totals(t, r, source, 0, false)
	}
	for _, source := range []string{"s", "t"} {
		takes(t, r, push(source, 0, changes("a 1")), 0, api.ErrPush)
		takes(t, r, push(source, 0, nil), 0, api.ErrPush)
		for _, wrong := range wrongChanges() {
			for _, n := range []uint64{1, 2, 3} { // taken already, next, behind a gap: ahead of these
				takes(t, r, push(source, n, wrong), 0, api.ErrPush)
			}
		}
	}
	totals(t, r, "t", 0, false)
	totals(t, r, "s", 1, true, counts("a 1")...)
	sums(t, r, counts("a 1")...)
	takes(t, r, push("s", 2, changes("a 1")), 2, api.OK)
}

func TestTakeOfManySources(t *testing.T) { // 24.5: MaxSources, and one past it
	r := delta.NewReceiver()
	name := func(n int) string { return fmt.Sprintf("s%03d", n) }
	for n := range 2 * api.MaxSources { // pushes that are refused make no source
		takes(t, r, push(name(n+1000), 2, nil), 0, api.ErrGap)
		takes(t, r, push(name(n+1000), 1, changes("b 1, a 1")), 0, api.ErrPush)
	}
	for n := range api.MaxSources {
		takes(t, r, push(name(n), 1, changes("a 1")), 1, api.OK)
	}
	for _, n := range []uint64{1, 2, math.MaxUint64} {
		takes(t, r, push("t", n, changes("a 1")), 0, api.ErrMany) // ahead of ErrGap
		takes(t, r, push(name(api.MaxSources), n, nil), 0, api.ErrMany)
	}
	takes(t, r, push("t", 0, nil), 0, api.ErrPush)
	takes(t, r, push("t", 1, changes("b 1, a 1")), 0, api.ErrPush) // ahead of ErrMany
	totals(t, r, "t", 0, false)
	for n := range api.MaxSources {
		takes(t, r, push(name(n), 2, changes("a 2")), 2, api.OK)
		takes(t, r, push(name(n), 2, changes("a 2")), 2, api.ErrAgain)
		takes(t, r, push(name(n), 4, changes("a 2")), 2, api.ErrGap)
		totals(t, r, name(n), 2, true, counts("a 3")...)
	}
	sums(t, r, counts("a 768")...)
}

func TestTakeOfManyCounts(t *testing.T) { // 24.5: MaxCounts, and one past it
	r := delta.NewReceiver()
	most := keyed(0, api.MaxCounts)
	takes(t, r, push("s", 1, grown(0, api.MaxCounts)), 1, api.OK)
	takes(t, r, push("s", 2, gone(0, api.MaxCounts)), 2, api.OK)
	for _, l := range [][]api.Change{changes("a 1"), changes("z 0 reset"), grown(1, api.MaxCounts), append(gone(0, 1), changes("z 1")...)} {
		takes(t, r, push("s", 3, l), 2, api.ErrMany)
		takes(t, r, push("s", 2, l), 2, api.ErrAgain) // ahead of ErrMany
		takes(t, r, push("s", 4, l), 2, api.ErrGap)
		totals(t, r, "s", 2, true, most...)
	}
	takes(t, r, push("s", 3, changes("a gone, z gone")), 3, api.OK) // of keys that are not there
	totals(t, r, "s", 3, true, most...)
	takes(t, r, push("t", 1, grown(api.MaxCounts, api.MaxCounts)), 1, api.OK) // each source has room of its own
	sums(t, r, append(slices.Clone(most), keyed(api.MaxCounts, api.MaxCounts)...)...)
}

func TestTotal(t *testing.T) { // 24.5
	r := delta.NewReceiver()
	for i, source := range sources {
		takes(t, r, push(source, 1, []api.Change{{Key: neighbours[i], By: uint64(i + 1)}}), 1, api.OK)
	}
	takes(t, r, push("empty", 1, nil), 1, api.OK)
	for i, source := range sources {
		totals(t, r, source, 1, true, api.Count{Key: neighbours[i], N: uint64(i + 1)})
	}
	totals(t, r, "empty", 1, true)
	for _, source := range append(noSources, "S", "s\x00", "ss", "\x00\x00") {
		totals(t, r, source, 0, false)
	}
}

func TestAll(t *testing.T) { // 24.5: sums are modulo 2^64, keys rise, there may be more than MaxCounts
	r := delta.NewReceiver()
	takes(t, r, push("s", 1, changes("a 18446744073709551615, c 1, d 0 reset")), 1, api.OK)
	takes(t, r, push("t", 1, changes("a 3, b 2, c 18446744073709551615, d 0 reset")), 1, api.OK)
	takes(t, r, push("u", 1, changes("B 7, b 3, c gone")), 1, api.OK)
	for range 5 {
		sums(t, r, counts("B 7, a 2, b 5, c 0, d 0")...)
	}
	full := delta.NewReceiver()
	var want []api.Count
	for n := range api.MaxSources {
		takes(t, full, push(fmt.Sprint("s", n), 1, grown(n*16, api.MaxCounts)), 1, api.OK)
		want = append(want, keyed(n*16, 16)...)
	}
	want = append(want, keyed(api.MaxSources*16, api.MaxCounts-16)...)
	got := full.All()
	if !slices.Equal(keysOf(got), keysOf(want)) {
		t.Error("so many keys:", len(got))
	}
	for i, c := range got { // each key stands in so many totals, with the same number
		times := min(i/16, len(got)/16-1-i/16, api.MaxSources-1) + 1
		if c.N != uint64(times)*want[i].N {
			t.Fatalf("%s: %d, want %d times %d", c.Key, c.N, times, want[i].N)
		}
	}
}

func TestNilReceiver(t *testing.T) { // 24.6
	var r *delta.Receiver
	for range 2 {
		takes(t, r, push("s", 1, changes("a 1")), 0, api.ErrNil)
		takes(t, r, push("", 0, nil), 0, api.ErrNil)
		totals(t, r, "s", 0, false)
		sums(t, r)
	}
}

func TestTwoReceiversAreApart(t *testing.T) { // P4
	a, b := delta.NewReceiver(), delta.NewReceiver()
	takes(t, a, push("s", 1, changes("a 1")), 1, api.OK)
	takes(t, b, push("s", 2, changes("a 1")), 0, api.ErrGap)
	sums(t, b)
	takes(t, b, push("s", 1, changes("a 5")), 1, api.OK)
	sums(t, a, counts("a 1")...)
}

func TestReceiverMemory(t *testing.T) { // 24.6
	r := delta.NewReceiver()
	p := push(strings.Clone("ss"), 1, freshChanges(changes("a 1, b 2, c gone")))
	kept := freshChanges(p.Changes)
	takes(t, r, p, 1, api.OK)
	one, _, _ := r.Total("ss")
	other, _, _ := r.Total("ss")
	sum, again := r.All(), r.All()
	x := texts{}
	x.areApart(p.Source)
	x.areApart(keysOfChanges(p.Changes)...)
	for _, l := range [][]api.Count{one, other, sum, again} {
		if !x.areApart(keysOf(l)...) {
			t.Error("keys share memory:", l)
		}
	}
	want := counts("a 1, b 2")
	spoilCounts(one)
	spoilCounts(sum)
	if !slices.Equal(other, want) || !slices.Equal(again, want) || !slices.Equal(p.Changes, kept) {
		t.Error("an answer is a piece of another one, or of what was handed in:", other, again, p)
	}
	spoilChanges(p.Changes)
	totals(t, r, "ss", 1, true, want...)
	sums(t, r, want...)
}

// line is a sender and what of its pushes is under way to a receiver: they are lost, doubled, late, in any order; and so are the acknowledgements.
type line struct {
	s     *delta.Sender
	last  []api.Count
	under []api.Push
	acks  []uint64
	sum   [][]api.Count // what the changes up to each number add up to
}

func newLine(t *testing.T, source string) *line {
	return &line{s: sender(t, source), sum: [][]api.Count{nil}}
}

func (x *line) send(t *testing.T, r *rand.Rand) {
	x.last = someCounts(r, few)
	p, why := x.s.Send(x.last)
	if why != api.OK {
		t.Fatal("Send: error", why)
	}
	x.under = append(x.under, p)
	x.sum = append(x.sum, added(x.sum[len(x.sum)-1], p.Changes))
}

// comes has a push come, or get lost; what was told of it is under way back.
func (x *line) comes(t *testing.T, r *rand.Rand, to *delta.Receiver, source string) {
	if len(x.under) == 0 {
		return
	}
	at := r.Intn(len(x.under))
	p := x.under[at]
	if r.Intn(2) == 0 {
		x.under = slices.Delete(x.under, at, at+1)
	}
	if r.Intn(3) == 0 {
		return
	}
	_, before, _ := to.Total(source)
	want, err := before, api.OK
	switch {
	case p.Number <= before:
		err = api.ErrAgain
	case p.Number > before+1:
		err = api.ErrGap
	default:
		want = p.Number
	}
	takes(t, to, p, want, err)
	totals(t, to, source, want, want > 0, x.sum[want]...)
	x.acks = append(x.acks, want)
}

// isAcked has a number come back, early or late, or get lost.
func (x *line) isAcked(t *testing.T, r *rand.Rand) {
	if len(x.acks) > 0 && r.Intn(2) == 0 {
		acks(t, x.s, x.acks[r.Intn(len(x.acks))], api.OK)
	}
}

func TestToldOnce(t *testing.T) { // 24.10, P16
	r := rand.New(rand.NewSource(10))
	for range 200 {
		to := delta.NewReceiver()
		lines := map[string]*line{}
		names := sources[:1+r.Intn(3)]
		for _, source := range names {
			lines[source] = newLine(t, source)
		}
		for range 150 {
			source := names[r.Intn(len(names))]
			x := lines[source]
			switch r.Intn(4) {
			case 0:
				x.send(t, r)
			case 1:
				x.isAcked(t, r)
			case 2: // all that wait are sent again
				if r.Intn(6) == 0 {
					x.under = append(x.under, x.s.Waiting()...)
				}
			default:
				x.comes(t, r, to, source)
			}
			if t.Failed() {
				return
			}
		}
		sum := map[string]uint64{}
		for _, source := range names {
			x := lines[source]
			for _, p := range x.s.Waiting() { // in their order: then it has all
				to.Take(p)
			}
			n := uint64(len(x.sum) - 1)
			totals(t, to, source, n, n > 0, x.sum[n]...)
			acks(t, x.s, n, api.OK)
			waits(t, x.s)
			for _, c := range x.sum[n] {
				sum[c.Key] += c.N
			}
		}
		sums(t, to, listOf(sum)...)
	}
}

// Of one source's pushes each order comes to what it tells.
func TestTakeInAllOrders(t *testing.T) { // 24.5, 24.10
	s := sender(t, "s")
	var all []api.Push
	for _, now := range []string{"a 1", "a 4, b 2", "a 3", "a 3, b 1, c 0"} {
		p, _ := s.Send(counts(now))
		all = append(all, p)
	}
	after := []string{"", "a 1", "a 4, b 2", "a 7, b 2", "a 7, b 3, c 0"}
	var from func(i int)
	from = func(i int) {
		if i < len(all) {
			for k := i; k < len(all); k++ {
				all[i], all[k] = all[k], all[i]
				from(i + 1)
				all[i], all[k] = all[k], all[i]
			}
			return
		}
		r := delta.NewReceiver()
		for range all { // again and again: then it has all
			for _, p := range all {
				n, _ := r.Take(p)
				totals(t, r, "s", n, n > 0, counts(after[n])...)
			}
		}
		totals(t, r, "s", 4, true, counts(after[4])...)
	}
	from(0)
}

// Objects that have nothing to do with one another may be used on goroutines each, also with the same lists.
func TestApartOnGoroutines(t *testing.T) { // P4
	looks := [][]api.Count{counts("a 1"), counts("a 4, b 2"), counts("a 3"), keyed(0, 1000), nil}
	var all sync.WaitGroup
	for w := range 16 {
		all.Go(func() {
			source := fmt.Sprint("s", w%4)
			s, _ := delta.NewSender(source)
			r := delta.NewReceiver()
			for n := range uint64(100) {
				p, why := s.Send(looks[n%5])
				if why != api.OK {
					t.Error("Send: error", why)
				}
				takes(t, r, p, n+1, api.OK)
				acks(t, s, n+1, api.OK)
			}
			waits(t, s)
			total, n, _ := r.Total(source)
			if n != 100 || len(total) != 1002 || total[0] != (api.Count{Key: "a", N: 7 * 20}) || !slices.Equal(r.All(), total) {
				t.Errorf("%d, %d of them, first %v", n, len(total), total[:1])
			}
		})
	}
	all.Wait()
}
