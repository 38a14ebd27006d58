package delta_test

import (
	"fmt"
	"math"
	"math/rand"
	"slices"
	"strings"
	"testing"

	"abacus/api"
	"abacus/delta"
)

// sources are texts that are names of sources; noSources are none.
var (
	sources   = []string{"s", "\x00", "\xff", " ", "é", "a b\n", long}
	noSources = []string{"", long + "x", strings.Repeat("s", 1<<16)}
)

func TestNewSender(t *testing.T) { // 24.4
	for _, source := range sources {
		s := sender(t, source)
		waits(t, s)
		acks(t, s, 1, api.ErrRange)
		sends(t, s, counts("a 1"), api.OK, push(source, 1, changes("a 1")))
	}
	for _, source := range noSources {
		if s, why := delta.NewSender(source); s != nil || why != api.ErrPush {
			t.Errorf("NewSender(%.50q): error %d", source, why)
		}
	}
}

func TestSend(t *testing.T) { // 24.4
	s := sender(t, "s")
	want := []api.Push{
		push("s", 1, nil), // of no counts nothing came: it is a push, too
		push("s", 2, changes("a 1, b 0 reset")),
		push("s", 3, nil),
		push("s", 4, changes("a 2, b 4")),
		push("s", 5, changes("a 1 reset, b gone, c 7")),
		push("s", 6, changes("a gone, c gone")),
		push("s", 7, changes("a 1")),
	}
	for i, now := range []string{"", "a 1, b 0", "a 1, b 0", "a 3, b 4", "a 1, c 7", "", "a 1"} {
		sends(t, s, counts(now), api.OK, want[i])
		waits(t, s, want[:i+1]...)
	}
}

func TestSendRefuses(t *testing.T) { // 24.4, P2: what is refused has no number, is not the last look, and does not wait
	s := sender(t, "s")
	sends(t, s, keyed(0, api.MaxCounts), api.OK, push("s", 1, grown(0, api.MaxCounts)))
	for _, wrong := range wrongCounts() {
		sends(t, s, wrong, api.ErrCounts, api.Push{})
	}
	sends(t, s, keyed(1, api.MaxCounts), api.OK, push("s", 2, append(gone(0, 1), grown(api.MaxCounts, 1)...)))
	sends(t, s, keyed(90000, 1), api.ErrMany, api.Push{})
	sends(t, s, keyed(90000, api.MaxCounts), api.ErrMany, api.Push{})
	if n := len(s.Waiting()); n != 2 {
		t.Error("so many wait:", n)
	}
	sends(t, s, nil, api.OK, push("s", 3, gone(1, api.MaxCounts)))
}

func TestSendUpToTheMost(t *testing.T) { // 24.4: MaxWaiting, and one past it
	s := sender(t, "s")
	var want []api.Push
	for n := range uint64(api.MaxWaiting) {
		p := push("s", n+1, changes("a 2"))
		if n == 0 {
			p.Changes = changes("a 1")
		}
		want = append(want, p)
		sends(t, s, []api.Count{{Key: "a", N: 2*n + 1}}, api.OK, p)
	}
	for range 3 {
		sends(t, s, counts("a 5000"), api.ErrMany, api.Push{})
		sends(t, s, nil, api.ErrMany, api.Push{})
		sends(t, s, counts("b 1, a 1"), api.ErrCounts, api.Push{}) // ahead of ErrMany
	}
	waits(t, s, want...)
	acks(t, s, 1, api.OK)
	sends(t, s, counts("a 2047, b 1"), api.OK, push("s", 1025, changes("b 1"))) // of the last one that was sent
	sends(t, s, counts("a 2047"), api.ErrMany, api.Push{})
	waits(t, s, append(want[1:], push("s", 1025, changes("b 1")))...)
	acks(t, s, 1025, api.OK)
	waits(t, s)
	sends(t, s, counts("a 2047, b 1"), api.OK, push("s", 1026, nil))
}

func TestAcked(t *testing.T) { // 24.4
	s := sender(t, "s")
	acks(t, s, 0, api.OK)
	for _, n := range []uint64{1, 2, math.MaxUint64} {
		acks(t, s, n, api.ErrRange)
	}
	var all []api.Push
	for n := range uint64(6) {
		p, _ := s.Send([]api.Count{{Key: "a", N: n + 1}})
		all = append(all, p)
	}
	acks(t, s, 7, api.ErrRange)
	acks(t, s, math.MaxUint64, api.ErrRange)
	acks(t, s, 0, api.OK)
	waits(t, s, all...)
	acks(t, s, 2, api.OK)
	waits(t, s, all[2:]...)
	for _, n := range []uint64{0, 1, 2} { // once more, and late
		acks(t, s, n, api.OK)
		waits(t, s, all[2:]...)
	}
	acks(t, s, 7, api.ErrRange)
	waits(t, s, all[2:]...)
	acks(t, s, 5, api.OK)
	waits(t, s, all[5:]...)
	acks(t, s, 6, api.OK)
	waits(t, s)
	acks(t, s, 6, api.OK)
	acks(t, s, 7, api.ErrRange)
	sends(t, s, counts("a 9"), api.OK, push("s", 7, changes("a 3")))
	acks(t, s, 3, api.OK)
	waits(t, s, push("s", 7, changes("a 3")))
}

func TestNilSender(t *testing.T) { // 24.6
	var s *delta.Sender
	for range 2 {
		sends(t, s, counts("a 1"), api.ErrNil, api.Push{})
		sends(t, s, counts("b 1, a 1"), api.ErrNil, api.Push{})
		acks(t, s, 0, api.ErrNil)
		acks(t, s, 1, api.ErrNil)
		if l := s.Waiting(); len(l) > 0 {
			t.Error(l)
		}
	}
}

func TestTwoSendersAreApart(t *testing.T) { // P4
	a, b := sender(t, "s"), sender(t, "s")
	sends(t, a, counts("a 3"), api.OK, push("s", 1, changes("a 3")))
	sends(t, b, counts("a 5"), api.OK, push("s", 1, changes("a 5")))
	acks(t, a, 1, api.OK)
	waits(t, b, push("s", 1, changes("a 5")))
}

func TestSenderMemory(t *testing.T) { // 24.6
	source := strings.Clone("ss")
	s, _ := delta.NewSender(source)
	now := freshCounts(counts("a 1, b 2, c 3"))
	kept := freshCounts(now)
	one, _ := s.Send(now)
	same, _ := s.Send(now)
	waiting, again := s.Waiting(), s.Waiting()
	x := texts{}
	all := append(append([]api.Push{one, same}, waiting...), again...)
	if !x.areApart(source) || !x.areApart(keysOf(now)...) {
		t.Fatal("texts of this test share memory")
	}
	for _, p := range all {
		if !x.areApart(p.Source) || !x.areApart(keysOfChanges(p.Changes)...) {
			t.Error("texts share memory:", p)
		}
	}
	spoilPushes([]api.Push{one})
	spoilPushes(waiting)
	if !slices.Equal(again[0].Changes, changes("a 1, b 2, c 3")) || again[1].Number != 2 || !slices.Equal(now, kept) {
		t.Error("an answer is a piece of another one, or of what was handed in:", again, now)
	}
	spoilCounts(now)
	spoilPushes(again)
	waits(t, s, push("ss", 1, changes("a 1, b 2, c 3")), push("ss", 2, nil))
	sends(t, s, counts("a 1, b 5"), api.OK, push("ss", 3, changes("b 3, c gone")))
}

// A sender by chance, held against what is told by a list.
func TestSenderOfAny(t *testing.T) { // 24.4
	r := rand.New(rand.NewSource(4))
	for range 100 {
		source := sources[r.Intn(len(sources))]
		s := sender(t, source)
		var last []api.Count
		var number uint64
		var waiting []api.Push
		for range 100 {
			switch r.Intn(4) {
			case 0:
				n := uint64(r.Intn(int(number) + 3))
				if n > number {
					acks(t, s, n, api.ErrRange)
					continue
				}
				acks(t, s, n, api.OK)
				waiting = slices.DeleteFunc(waiting, func(p api.Push) bool { return p.Number <= n })
			case 1:
				sends(t, s, counts("b 1, a 1"), api.ErrCounts, api.Push{})
			default:
				now := someCounts(r, all)
				number++
				p := push(source, number, came(last, now))
				sends(t, s, now, api.OK, p)
				waiting = append(waiting, p)
				last = now
			}
			waits(t, s, waiting...)
			if t.Failed() {
				return
			}
		}
	}
}

func ExampleSender() {
	s, _ := delta.NewSender("s")
	r := delta.NewReceiver()
	one, _ := s.Send([]api.Count{{Key: "a", N: 1}})
	two, _ := s.Send([]api.Count{{Key: "a", N: 3}})
	fmt.Println(r.Take(two))
	fmt.Println(r.Take(one))
	fmt.Println(r.Take(one))
	fmt.Println(r.Take(two))
	fmt.Println(r.Total("s"))
	// Output:
	// 0 242
	// 1 0
	// 1 243
	// 2 0
	// [{a 3}] 2 true
}
