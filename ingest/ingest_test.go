package ingest_test

import (
	"math"
	"math/rand"
	"runtime"
	"slices"
	"strconv"
	"sync"
	"testing"
	"time"

	"abacus/api"
	"abacus/ingest"
)

// beyond are sizes that no intake has: each by its workers, or its queue, or both.
var beyond = [][2]int{
	{0, 0}, {-1, 0}, {math.MinInt, 0}, {api.MaxWorkers + 1, 0}, {math.MaxInt, 0}, {0, api.MaxQueue},
	{1, -1}, {1, math.MinInt}, {1, api.MaxQueue + 1}, {1, math.MaxInt}, {api.MaxWorkers, api.MaxQueue + 1},
	{0, -1}, {api.MaxWorkers + 1, api.MaxQueue + 1},
}

func TestNew(t *testing.T) { // 22.1
	for _, x := range beyond {
		if x, why := ingest.New(x[0], x[1]); x != nil || why != api.ErrRange {
			t.Errorf("New(%v): error %d", x, why)
		}
	}
	for _, workers := range []int{1, 2, api.MaxWorkers - 1, api.MaxWorkers} {
		for _, queue := range []int{0, 1, api.MaxQueue - 1, api.MaxQueue} {
			x := made(t, workers, queue)
			sends(t, x, "hits:2|c", 1, api.OK)
			closes(t, x, api.Tally{Stats: []api.Stat{count("hits", 1, 2000000)}, Taken: 1}, api.OK)
		}
	}
}

func TestExampleOfAnIntake(t *testing.T) { // example 2
	x := made(t, 2, 0)
	sends(t, x, "g:1|g", 1, api.OK)
	sends(t, x, "g:5|g", 2, api.OK)
	closes(t, x, api.Tally{Stats: []api.Stat{gauge("g", 2, 5000000)}, Taken: 2}, api.OK)
	sends(t, x, "x", 0, api.ErrClosed)
	closes(t, x, api.Tally{}, api.ErrClosed)
}

func TestBehindAClose(t *testing.T) { // 22.2
	for _, lines := range [][]string{nil, {"stop"}, {"x", "g:1|g"}} {
		x := made(t, 3, 2)
		for i, line := range lines {
			sends(t, x, line, i+1, api.OK)
		}
		closes(t, x, told(lines), api.OK)
		for range 100 {
			sends(t, x, "g:5|g", 0, api.ErrClosed)
			sends(t, x, "stop", 0, api.ErrClosed)
			closes(t, x, api.Tally{}, api.ErrClosed)
		}
	}
}

// What is sent gets its number behind a stop, too, and changes nothing there.
func TestSendBehindAStop(t *testing.T) { // 22.2, 22.8
	x := made(t, 2, 1)
	for i, line := range []string{"hits:1|c", "x", "", "stop", "hits:5|c", "y", "stop", ""} {
		sends(t, x, line, i+1, api.OK)
	}
	closes(t, x, api.Tally{Stats: []api.Stat{count("hits", 1, 1000000)}, Taken: 3, Faults: []api.Fault{{Line: 2, Rule: 1}}, Stopped: true}, api.OK)
}

func TestSendsTillThereAreTooMany(t *testing.T) { // 22.2
	for _, last := range []string{"", "stop", "hits:1|c"} {
		x := made(t, 4, api.MaxQueue)
		lines := make([]string, api.MaxLines)
		lines[api.MaxLines-1] = last
		for i, line := range lines {
			if n, why := x.Send(line); n != i+1 || why != api.OK {
				t.Fatalf("line %d: %d, error %d", i+1, n, why)
			}
		}
		for range 3 {
			sends(t, x, "hits:1|c", 0, api.ErrMany)
			sends(t, x, "stop", 0, api.ErrMany)
		}
		closes(t, x, told(lines), api.OK)
		sends(t, x, "hits:1|c", 0, api.ErrClosed) // ahead of ErrMany
	}
}

func TestTwoIntakesAreApart(t *testing.T) { // P4
	x, y := made(t, 1, 0), made(t, 1, 0)
	sends(t, x, "stop", 1, api.OK)
	sends(t, y, "hits:1|c", 1, api.OK)
	closes(t, x, api.Tally{Stopped: true}, api.OK)
	sends(t, y, "hits:1|c", 2, api.OK)
	closes(t, y, api.Tally{Stats: []api.Stat{count("hits", 2, 2000000)}, Taken: 2}, api.OK)
}

func TestNil(t *testing.T) { // 22.5
	var x *ingest.Intake
	for range 2 {
		sends(t, x, "hits:1|c", 0, api.ErrNil)
		sends(t, x, "stop", 0, api.ErrNil)
		closes(t, x, api.Tally{}, api.ErrNil)
	}
}

// senders send lines at one time: by their numbers all that was sent, where numbers are from 1 on without gaps. Whoever hears that the intake is closed ends.
func senders(t *testing.T, send func(line string) (int, api.Errno), l [][]string) []string {
	t.Helper()
	numbers := make([][]int, len(l))
	var all sync.WaitGroup
	for w, lines := range l {
		all.Go(func() {
			for _, line := range lines {
				n, why := send(line)
				if why == api.ErrClosed && n == 0 {
					return
				}
				if why != api.OK {
					t.Error("Send: error", why)
				}
				numbers[w] = append(numbers[w], n)
			}
		})
	}
	all.Wait()
	at := map[int]string{}
	for w, own := range numbers {
		if !slices.IsSorted(own) {
			t.Error("numbers of one behind another do not rise")
		}
		for i, n := range own {
			if _, is := at[n]; is {
				t.Error("two lines have the number", n)
			}
			at[n] = l[w][i]
		}
	}
	var lines []string
	for n := range len(at) {
		line, is := at[n+1]
		if !is {
			t.Fatal("no line has the number", n+1)
		}
		lines = append(lines, line)
	}
	return lines
}

func TestSendByMany(t *testing.T) { // 22.2: the numbers are the order, gauges and a stop tell
	r := rand.New(rand.NewSource(22))
	for range 60 {
		x := made(t, 1+r.Intn(8), r.Intn(4)*r.Intn(5))
		l := make([][]string, 1+r.Intn(12))
		want := 0
		for w := range l {
			l[w] = some(r, r.Intn(80), true)
			if len(l[w]) > 0 && r.Intn(8) == 0 {
				l[w][r.Intn(len(l[w]))] = "stop"
			}
			want += len(l[w])
		}
		lines := senders(t, x.Send, l)
		if len(lines) != want {
			t.Fatalf("%d lines were sent, of %d", len(lines), want)
		}
		closes(t, x, told(lines), api.OK)
	}
}

// Who closes while others send gets all that was sent, and nothing more is.
func TestCloseBesideSends(t *testing.T) { // 22.2
	r := rand.New(rand.NewSource(2))
	someOut := false
	for range 100 {
		x := made(t, 1+r.Intn(4), r.Intn(3))
		l := make([][]string, 8)
		for w := range l {
			l[w] = some(r, 500, true)
		}
		from := 1 + r.Intn(100)
		begun := make(chan struct{})
		tallies := make(chan api.Tally, 1)
		go func() {
			<-begun
			tally, why := x.Close()
			if why != api.OK {
				t.Error("Close: error", why)
			}
			tallies <- tally
		}()
		lines := senders(t, func(line string) (int, api.Errno) {
			n, why := x.Send(line)
			if n == from {
				close(begun)
			}
			return n, why
		}, l)
		if got, want := <-tallies, told(lines); !areSame(got, want) || len(lines) < from {
			t.Fatalf("Close beside sends: %v, want %v", got, want)
		}
		someOut = someOut || len(lines) < 4000
		sends(t, x, "x", 0, api.ErrClosed)
		closes(t, x, api.Tally{}, api.ErrClosed)
	}
	if !someOut {
		t.Error("never came: lines that were not sent any more")
	}
}

func TestCloseByMany(t *testing.T) { // 22.2
	for range 100 {
		x := made(t, 2, 1)
		sends(t, x, "g:7|g", 1, api.OK)
		var all sync.WaitGroup
		tallies := make(chan api.Tally, 8)
		for range 8 {
			all.Go(func() {
				tally, why := x.Close()
				switch {
				case why == api.OK:
					tallies <- tally
				case why != api.ErrClosed || !isZero(tally):
					t.Error("Close:", tally, why)
				}
			})
		}
		all.Wait()
		close(tallies)
		if len(tallies) != 1 {
			t.Fatal("so many closed it:", len(tallies))
		}
		if tally := <-tallies; !areSame(tally, api.Tally{Stats: []api.Stat{gauge("g", 1, 7000000)}, Taken: 1}) {
			t.Fatal(tally)
		}
	}
}

// leavesNothing waits till there are no more goroutines than before: one that has ended is counted for a moment more.
func leavesNothing(t *testing.T, before int) {
	t.Helper()
	for tries := 0; runtime.NumGoroutine() > before; tries++ {
		if tries == 1000 {
			t.Fatal("goroutines are left:", runtime.NumGoroutine()-before)
		}
		time.Sleep(time.Millisecond)
	}
}

func TestCloseLeavesNothing(t *testing.T) { // 22.5, P4
	before := runtime.NumGoroutine()
	for i := range 20 {
		x := made(t, api.MaxWorkers, i)
		senders(t, x.Send, slices.Repeat([][]string{{"hits:1|c", "x", "g:1|g"}}, 20))
		x.Close()
	}
	leavesNothing(t, before)
}

func TestRefusedCallsLeaveNothing(t *testing.T) { // 22.3 to 22.5
	before := runtime.NumGoroutine()
	many := make([]string, api.MaxLines+1)
	for range 20 {
		ingest.New(0, 0)
		ingest.Run(many, 4, 4)
		ingest.Run(nil, 4, -1)
		ingest.Free([][]string{many}, 4, 4)
		ingest.Free([][]string{{"stop"}}, 4, 4)
		ingest.Free(nil, 0, 4)
	}
	leavesNothing(t, before)
}

// Of lines that each come to a stat of their own none is lost, none twice.
func TestEachLineOnce(t *testing.T) { // 22.2, P16
	x := made(t, 8, 3)
	l := make([][]string, 8)
	for w := range l {
		for i := range 250 {
			l[w] = append(l[w], "n"+strconv.Itoa(1000*w+i+1000)+":1|c")
		}
	}
	senders(t, x.Send, l)
	tally, why := x.Close()
	if why != api.OK || tally.Taken != 2000 || len(tally.Stats) != 2000 || len(tally.Faults) > 0 || tally.Stopped {
		t.Fatal(tally.Taken, len(tally.Stats), tally.Faults, tally.Stopped, why)
	}
	for i, s := range tally.Stats {
		if want := count("n"+strconv.Itoa(1000*(i/250)+i%250+1000), 1, 1000000); !areSameStats([]api.Stat{s}, []api.Stat{want}) {
			t.Errorf("%v, want %v", s, want)
		}
	}
}
