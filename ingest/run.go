package ingest

import (
	"sync"

	"abacus/api"
	"abacus/lists"
)

// One is what lines come to, read one after another.
func One(lines []string) (api.Tally, api.Errno) {
	if len(lines) > api.MaxLines {
		return api.Tally{}, api.ErrMany
	}
	var l []reading
	for i, text := range lines {
		l = append(l, line{number: i + 1, text: text}.read())
	}
	return tallyOf(l), api.OK
}

// Run is the same, by an intake.
func Run(lines []string, workers, queue int) (api.Tally, api.Errno) {
	switch {
	case !isSize(workers, queue):
		return api.Tally{}, api.ErrRange
	case len(lines) > api.MaxLines:
		return api.Tally{}, api.ErrMany
	}
	x, _ := New(workers, queue)
	x.sendAll(lines)
	return x.Close()
}

// Free has a goroutine a list send its lines to one intake: what they come to, where that hangs on no order: the stats, and how many lines broke each rule.
func Free(l [][]string, workers, queue int) ([]api.Stat, [7]int, api.Errno) {
	var broken [7]int
	switch {
	case !isSize(workers, queue):
		return nil, broken, api.ErrRange
	case lists.MoreThan(l, api.MaxLines):
		return nil, broken, api.ErrMany
	case hangsOnOrder(l):
		return nil, broken, api.ErrGauge
	}
	x, _ := New(workers, queue)
	var senders sync.WaitGroup
	for _, lines := range l {
		senders.Add(1)
		go func() {
			defer senders.Done()
			x.sendAll(lines)
		}()
	}
	senders.Wait()
	t, why := x.Close()
	for _, f := range t.Faults {
		broken[f.Rule]++
	}
	return t.Stats, broken, why
}

// hangsOnOrder tells whether it matters in which order lines come: it does behind a stop, and with gauges, which have what came last.
func hangsOnOrder(l [][]string) bool {
	for _, lines := range l {
		for _, text := range lines {
			if r := (line{text: text}).read(); r.stop || r.point.Kind == api.PointGauge {
				return true
			}
		}
	}
	return false
}

// sendAll sends lines, one after another.
func (x *Intake) sendAll(lines []string) {
	for _, text := range lines {
		x.Send(text)
	}
}
