package ingest_test

import (
	"math/rand"
	"reflect"
	"slices"
	"testing"

	"abacus/api"
	"abacus/ingest"
	"abacus/statsd"
)

// plain is a tally in which nil and empty lists are one.
func plain(t api.Tally) api.Tally {
	t.Stats = plainStats(t.Stats)
	t.Faults = append([]api.Fault{}, t.Faults...)
	return t
}

func plainStats(l []api.Stat) []api.Stat {
	all := []api.Stat{}
	for _, s := range l {
		s.Labels = append([]api.Label{}, s.Labels...)
		s.Texts = append([]string{}, s.Texts...)
		all = append(all, s)
	}
	return all
}

func areSame(a, b api.Tally) bool {
	return reflect.DeepEqual(plain(a), plain(b))
}

func areSameStats(a, b []api.Stat) bool {
	return reflect.DeepEqual(plainStats(a), plainStats(b))
}

func isZero(t api.Tally) bool {
	return areSame(t, api.Tally{})
}

// told is what lines come to by the document's words: one after another, as long as none is stop.
func told(lines []string) api.Tally {
	var t api.Tally
	for i, line := range lines {
		if line == "stop" {
			t.Stopped = true
			return t
		}
		t.Taken = i + 1
		if line == "" {
			continue
		}
		p, rule := statsd.Line(line)
		if rule > 0 {
			t.Faults = append(t.Faults, api.Fault{Line: i + 1, Rule: rule})
			continue
		}
		t.Stats, _ = statsd.Fold(t.Stats, []api.Point{p})
	}
	return t
}

func count(name string, n, sum int64) api.Stat {
	return api.Stat{Kind: api.PointCount, Name: name, Count: n, Sum: sum}
}

func gauge(name string, n, last int64) api.Stat {
	return api.Stat{Kind: api.PointGauge, Name: name, Count: n, Last: last}
}

// comesTo holds lines against what they come to: by one, and by intakes of all sorts.
func comesTo(t *testing.T, want api.Tally, lines ...string) {
	t.Helper()
	if got, why := ingest.One(lines); !areSame(got, want) || why != api.OK {
		t.Errorf("One(%q): %v, error %d, want %v", lines, got, why, want)
	}
	for _, workers := range []int{1, 2, 7, api.MaxWorkers} {
		for _, queue := range []int{0, 1, api.MaxQueue} {
			if got, why := ingest.Run(lines, workers, queue); !areSame(got, want) || why != api.OK {
				t.Errorf("Run(%q, %d, %d): %v, error %d, want %v", lines, workers, queue, got, why, want)
			}
		}
	}
}

func made(t *testing.T, workers, queue int) *ingest.Intake {
	t.Helper()
	x, why := ingest.New(workers, queue)
	if x == nil || why != api.OK {
		t.Fatalf("New(%d, %d): error %d", workers, queue, why)
	}
	return x
}

func sends(t *testing.T, x *ingest.Intake, line string, want int, err api.Errno) {
	t.Helper()
	if got, why := x.Send(line); got != want || why != err {
		t.Errorf("Send(%q): %d, error %d, want %d, error %d", line, got, why, want, err)
	}
}

func closes(t *testing.T, x *ingest.Intake, want api.Tally, err api.Errno) {
	t.Helper()
	if got, why := x.Close(); !areSame(got, want) || why != err {
		t.Errorf("Close: %v, error %d, want %v, error %d", got, why, want, err)
	}
}

// orderless are lines whose end hangs on no order: points of all kinds but gauges, faults of each rule, empty ones.
var orderless = []string{
	"hits:1|c", "hits:2|c|@0.1", "hits:-3.5|c|#job:a", "hits:2|c|#job:b", "misses:7|c", "a.b:0.000001|c",
	"t:1.5|ms", "t:0|ms|@0.5", "t:9|ms|#a:x,b:y", "h:3|h", "h:999999.999999|h|@0.000001",
	"u:é|s", "u:x|s", "u:x|s|#job:a", "u:zz|s", "", "",
	"x", "hits", "hits:1|c\n", ":1|c", "hits:1|x", "hits:x|c", "t:-1|ms", "hits:01|c", "hits:1|c|", "hits:1|c|@0", "g:1|g|@0.1", "hits:1|c|#a",
	"Stop", "stop ", " stop", "stop\n", "stop:1|c", "stopp",
}

var gauges = []string{"g:1|g", "g:5|g", "g:+2|g", "g:-3|g", "g:0|g|#job:a", "stop:+1|g", "hits:9|g"}

// some are lines by chance, gauges among them if so wanted; none is stop.
func some(r *rand.Rand, n int, withGauges bool) []string {
	from := orderless
	if withGauges {
		from = slices.Concat(orderless, gauges)
	}
	var l []string
	for range n {
		l = append(l, from[r.Intn(len(from))])
	}
	return l
}
