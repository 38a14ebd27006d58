package ingest_test

import (
	"math/rand"
	"runtime"
	"slices"
	"strings"
	"testing"

	"abacus/api"
	"abacus/ingest"
	"abacus/statsd"
)

func TestStopIsTheWord(t *testing.T) { // the calls
	if ingest.Stop != "stop" {
		t.Error(ingest.Stop)
	}
}

func TestExamplesOfOne(t *testing.T) { // example 1
	comesTo(t, api.Tally{Stats: []api.Stat{count("hits", 2, 3000000)}, Taken: 4, Faults: []api.Fault{{Line: 4, Rule: 1}}}, "hits:1|c", "", "hits:2|c", "x")
	comesTo(t, api.Tally{Stats: []api.Stat{count("hits", 1, 1000000)}, Taken: 1, Stopped: true}, "hits:1|c", "stop", "hits:2|c", "x")
}

func TestTallies(t *testing.T) { // 22.3, 22.6, 22.8, and the words
	hits := count("hits", 1, 1000000)
	fault := func(line, rule int) []api.Fault { return []api.Fault{{Line: line, Rule: rule}} }
	long := "u:" + strings.Repeat("x", api.MaxValue) + "|s"
	for _, x := range []struct {
		lines []string
		want  api.Tally
	}{
		{nil, api.Tally{}},
		{[]string{""}, api.Tally{Taken: 1}},
		{[]string{"", "", ""}, api.Tally{Taken: 3}},
		{[]string{"stop"}, api.Tally{Stopped: true}},
		{[]string{"stop", "stop"}, api.Tally{Stopped: true}},
		{[]string{"stop", "hits:1|c", "x"}, api.Tally{Stopped: true}},
		{[]string{"hits:1|c", "stop"}, api.Tally{Stats: []api.Stat{hits}, Taken: 1, Stopped: true}},
		{[]string{"", "stop"}, api.Tally{Taken: 1, Stopped: true}},
		{[]string{"x", "stop"}, api.Tally{Taken: 1, Faults: fault(1, 1), Stopped: true}},
		{[]string{"hits:1|c", "stop", "", "stop", "x"}, api.Tally{Stats: []api.Stat{hits}, Taken: 1, Stopped: true}},
		{[]string{"Stop", "hits:1|c"}, api.Tally{Stats: []api.Stat{hits}, Taken: 2, Faults: fault(1, 1)}},
		{[]string{"stop ", "hits:1|c"}, api.Tally{Stats: []api.Stat{hits}, Taken: 2, Faults: fault(1, 1)}},
		{[]string{"stop\n", "hits:1|c"}, api.Tally{Stats: []api.Stat{hits}, Taken: 2, Faults: fault(1, 1)}},
		{[]string{"stop:1|c"}, api.Tally{Stats: []api.Stat{count("stop", 1, 1000000)}, Taken: 1}},
		{[]string{" ", "\n", "\x00", "\xff"}, api.Tally{Taken: 4, Faults: []api.Fault{{Line: 1, Rule: 1}, {Line: 2, Rule: 1}, {Line: 3, Rule: 1}, {Line: 4, Rule: 1}}}},
		{[]string{"hits:1|c\nhits:1|c", "hits:1|c"}, api.Tally{Stats: []api.Stat{hits}, Taken: 2, Faults: fault(1, 1)}},
		{[]string{"", "x", "", "h:1|x", "h:x|c", "h:1|c|", "h:1|c|@0", "h:1|c|#a"}, api.Tally{Taken: 8, Faults: []api.Fault{{Line: 2, Rule: 1}, {Line: 4, Rule: 2}, {Line: 5, Rule: 3}, {Line: 6, Rule: 4}, {Line: 7, Rule: 5}, {Line: 8, Rule: 6}}}},
		{[]string{"g:1|g", "g:5|g", "g:+2|g"}, api.Tally{Stats: []api.Stat{gauge("g", 3, 7000000)}, Taken: 3}},
		{[]string{"g:+2|g", "g:5|g", "g:1|g"}, api.Tally{Stats: []api.Stat{gauge("g", 3, 1000000)}, Taken: 3}},
		{[]string{"g:5|g", "stop", "g:1|g"}, api.Tally{Stats: []api.Stat{gauge("g", 1, 5000000)}, Taken: 1, Stopped: true}},
		{[]string{"t:2|ms|@0.5|#a:b", "t:1|ms|#a:b"}, api.Tally{Stats: []api.Stat{{Kind: api.PointTime, Name: "t", Labels: []api.Label{{Name: "a", Value: "b"}}, Count: 3, Sum: 5000000, Least: 1000000, Greatest: 2000000}}, Taken: 2}},
		{[]string{"u:b|s", "hits:1|c", "u:a|s", "u:b|s"}, api.Tally{Stats: []api.Stat{hits, {Kind: api.PointSet, Name: "u", Count: 3, Texts: []string{"a", "b"}}}, Taken: 4}},
		{[]string{long, strings.Repeat("x", api.MaxLine+1)}, api.Tally{Stats: []api.Stat{{Kind: api.PointSet, Name: "u", Count: 1, Texts: []string{strings.Repeat("x", api.MaxValue)}}}, Taken: 2, Faults: fault(2, 1)}},
	} {
		comesTo(t, x.want, x.lines...)
	}
}

// What lines of all sorts come to, by any intake: as the words tell it.
func TestAnyLines(t *testing.T) { // 22.3, 22.6
	r := rand.New(rand.NewSource(6))
	for range 300 {
		lines := some(r, r.Intn(120), true)
		if len(lines) > 0 && r.Intn(3) == 0 {
			lines[r.Intn(len(lines))] = "stop"
		}
		want := told(lines)
		if got, why := ingest.One(lines); !areSame(got, want) || why != api.OK {
			t.Fatalf("One(%q): %v, error %d, want %v", lines, got, why, want)
		}
		workers, queue := 1+r.Intn(api.MaxWorkers), r.Intn(1+r.Intn(api.MaxQueue+1))
		if got, why := ingest.Run(lines, workers, queue); !areSame(got, want) || why != api.OK {
			t.Fatalf("Run(%q, %d, %d): %v, error %d, want %v", lines, workers, queue, got, why, want)
		}
	}
}

func TestMostLines(t *testing.T) { // 22.3
	lines := some(rand.New(rand.NewSource(1)), api.MaxLines, true)
	want, why := ingest.One(lines)
	if want.Taken != api.MaxLines || why != api.OK {
		t.Fatalf("One of the most lines: %d, error %d", want.Taken, why)
	}
	for _, x := range [][2]int{{1, 0}, {api.MaxWorkers, 0}, {3, api.MaxQueue}} {
		if got, why := ingest.Run(lines, x[0], x[1]); !areSame(got, want) || why != api.OK {
			t.Errorf("Run of the most lines by %v: %d, error %d", x, got.Taken, why)
		}
	}
	for _, first := range []string{"hits:1|c", "stop"} { // a line behind a stop is one, too
		lines = append([]string{first}, lines...)
		if got, why := ingest.One(lines); !isZero(got) || why != api.ErrMany {
			t.Errorf("One of too many: %v, error %d", got, why)
		}
		if got, why := ingest.Run(lines, 2, 2); !isZero(got) || why != api.ErrMany {
			t.Errorf("Run of too many: %v, error %d", got, why)
		}
	}
}

func TestRunRefuses(t *testing.T) { // 22.3
	for _, x := range beyond {
		for _, lines := range [][]string{nil, {"hits:1|c"}, make([]string, api.MaxLines+1)} { // ahead of ErrMany
			if got, why := ingest.Run(lines, x[0], x[1]); !isZero(got) || why != api.ErrRange {
				t.Errorf("Run of %d lines, %v: %v, error %d", len(lines), x, got, why)
			}
		}
	}
}

func TestParts(t *testing.T) { // 22.9
	r := rand.New(rand.NewSource(9))
	for range 300 {
		a, b := some(r, r.Intn(60), false), some(r, r.Intn(60), false)
		if len(b) > 0 && r.Intn(3) == 0 {
			b[r.Intn(len(b))] = "stop"
		}
		first, _ := ingest.One(a)
		second, _ := ingest.One(b)
		both, _ := ingest.Run(slices.Concat(a, b), 3, 3)
		merged, why := statsd.Merge(first.Stats, second.Stats)
		if both.Taken != first.Taken+second.Taken || !areSameStats(both.Stats, merged) || why != api.OK {
			t.Fatalf("%q, %q: %v, %v, together %v", a, b, first, second, both)
		}
	}
}

// counts is how many lines break each rule.
func counts(l []api.Fault) [7]int {
	var n [7]int
	for _, f := range l {
		n[f.Rule]++
	}
	return n
}

// frees holds a Free that is right against its lists, one behind another.
func frees(t *testing.T, l [][]string, workers, queue int) {
	t.Helper()
	want := told(slices.Concat(l...))
	if stats, broken, why := ingest.Free(l, workers, queue); !areSameStats(stats, want.Stats) || broken != counts(want.Faults) || why != api.OK {
		t.Fatalf("Free(%q, %d, %d): %v, %v, error %d, want %v", l, workers, queue, stats, broken, why, want)
	}
}

func TestFree(t *testing.T) { // 22.4, 22.7, example 3
	stats, broken, why := ingest.Free([][]string{{"hits:1|c"}, {"hits:2|c", "x"}}, 2, 1)
	if !areSameStats(stats, []api.Stat{count("hits", 2, 3000000)}) || broken != [7]int{1: 1} || why != api.OK {
		t.Error(stats, broken, why)
	}
	stats, broken, why = ingest.Free([][]string{{"", "x"}, {"h:1|x", "h:x|c", "h:x|c", "y"}, {"h:1|c|"}, {"h:1|c|@0", "h:1|c|#a", "h:1|c|#a", "h:1|c|#"}}, 3, 0)
	if len(stats) > 0 || broken != [7]int{0, 2, 1, 2, 1, 1, 3} || why != api.OK {
		t.Error(stats, broken, why)
	}
	for _, l := range [][][]string{nil, {}, {nil}, {{}, nil, {""}}, make([][]string, api.MaxWorkers), {orderless}, slices.Repeat([][]string{orderless}, api.MaxWorkers)} {
		for _, x := range [][2]int{{1, 0}, {1, api.MaxQueue}, {api.MaxWorkers, 0}, {5, 1}} {
			frees(t, l, x[0], x[1])
		}
	}
}

func TestFreeInAnyOrder(t *testing.T) { // 22.4, 22.7
	r := rand.New(rand.NewSource(4))
	for range 200 {
		l := make([][]string, r.Intn(12))
		for w := range l {
			l[w] = some(r, r.Intn(40), false)
		}
		frees(t, l, 1+r.Intn(8), r.Intn(4))
		r.Shuffle(len(l), func(i, j int) { l[i], l[j] = l[j], l[i] })
		frees(t, l, 1+r.Intn(8), r.Intn(4))
	}
}

func TestFreeOfTheMost(t *testing.T) { // 22.4
	l := make([][]string, api.MaxWorkers)
	for w := range l {
		l[w] = slices.Repeat([]string{"hits:1|c", "x"}, api.MaxLines/api.MaxWorkers/2)
	}
	stats, broken, why := ingest.Free(l, 8, 8)
	if !areSameStats(stats, []api.Stat{count("hits", api.MaxLines/2, api.MaxLines/2*1000000)}) || broken != [7]int{1: api.MaxLines / 2} || why != api.OK {
		t.Error(stats, broken, why)
	}
}

func refusesFree(t *testing.T, name string, l [][]string, workers, queue int, err api.Errno) {
	t.Helper()
	if stats, broken, why := ingest.Free(l, workers, queue); len(stats) > 0 || broken != [7]int{} || why != err {
		t.Errorf("%s: %v, %v, error %d, want error %d", name, stats, broken, why, err)
	}
}

func TestFreeRefuses(t *testing.T) { // 22.4
	one, whole := []string{"hits:1|c", "x"}, make([]string, api.MaxLines)
	for _, x := range beyond {
		refusesFree(t, "size", [][]string{one}, x[0], x[1], api.ErrRange)
		refusesFree(t, "size ahead of many", [][]string{whole, one}, x[0], x[1], api.ErrRange)
		refusesFree(t, "size ahead of gauges", [][]string{gauges}, x[0], x[1], api.ErrRange)
	}
	for _, x := range []struct {
		name string
		l    [][]string
		why  api.Errno
	}{
		{"one list more", slices.Repeat([][]string{one}, api.MaxWorkers+1), api.ErrMany},
		{"one list more, none of which has any", make([][]string, api.MaxWorkers+1), api.ErrMany},
		{"one line more", [][]string{whole, nil, {""}}, api.ErrMany},
		{"one line more in a list", [][]string{append(whole, "x")}, api.ErrMany},
		{"many ahead of gauges", [][]string{gauges, whole}, api.ErrMany},
		{"many ahead of a stop", [][]string{{"stop"}, whole}, api.ErrMany},
		{"a stop", [][]string{{"stop"}}, api.ErrGauge},
		{"a stop at the end", [][]string{one, {"x", "stop"}}, api.ErrGauge},
		{"a gauge", [][]string{{"g:1|g"}}, api.ErrGauge},
		{"a gauge at the end", [][]string{one, nil, {"", "g:+1|g|#a:b"}}, api.ErrGauge},
		{"a gauge that adds", [][]string{{"g:-1|g"}, one}, api.ErrGauge},
	} {
		refusesFree(t, x.name, x.l, 2, 2, x.why)
	}
	for _, fault := range []string{"g:1|g|@0.1", "g:x|g", "g:1|g|", "9:1|g", "Stop", "stop\n"} { // none of them says a gauge, or to stop
		frees(t, [][]string{{fault}, one}, 2, 2)
	}
}

// spoil writes over all that a tally has, its spare room too.
func spoil(t api.Tally) {
	for _, s := range t.Stats {
		clear(s.Labels[:cap(s.Labels)])
		clear(s.Texts[:cap(s.Texts)])
	}
	clear(t.Stats[:cap(t.Stats)])
	clear(t.Faults[:cap(t.Faults)])
}

func TestAnswersAreNewMemory(t *testing.T) { // 22.5
	lines := []string{"t:1|ms|#a:b,c:d", "u:x|s", "u:y|s|#a:b", "u:z|s", "x", "", "y"}
	kept := slices.Clone(lines)
	want := told(lines)
	for range 2 {
		one, _ := ingest.One(lines)
		run, _ := ingest.Run(lines, 2, 2)
		x := made(t, 2, 2)
		for i, line := range lines {
			sends(t, x, line, i+1, api.OK)
		}
		sent, _ := x.Close()
		stats, _, _ := ingest.Free([][]string{lines}, 2, 2)
		all := []api.Tally{one, run, sent, {Stats: stats}}
		for i, tally := range all {
			if !areSameStats(tally.Stats, want.Stats) || i < 3 && !areSame(tally, want) {
				t.Errorf("answer %d: %v, want %v", i, tally, want)
			}
			spoil(tally)
		}
	}
	if !slices.Equal(lines, kept) {
		t.Errorf("what was handed in is changed: %q", lines)
	}
}

// No list of an answer has room that is another one's.
func TestListsOfAnAnswerAreApart(t *testing.T) { // 22.5
	lines := []string{"t:1|ms|#a:b", "t:1|ms|#a:c", "u:x|s", "u:y|s", "v:x|s|#a:b", "v:y|s|#a:b"}
	got, _ := ingest.Run(lines, 2, 2)
	for i := range got.Stats {
		s := &got.Stats[i]
		_ = append(s.Labels, api.Label{Name: "z"})
		_ = append(s.Texts, "z")
	}
	if want := told(lines); !areSame(got, want) {
		t.Errorf("%v, want %v", got, want)
	}
}

func TestRunAndFreeLeaveNothing(t *testing.T) { // 22.5, P4
	before := runtime.NumGoroutine()
	for i := range 20 {
		ingest.Run(orderless, api.MaxWorkers, i)
		ingest.Free([][]string{orderless, orderless}, api.MaxWorkers, i)
	}
	leavesNothing(t, before)
}
