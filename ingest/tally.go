package ingest

import (
	"abacus/api"
	"abacus/statsd"
)

// line is one of those that were sent.
type line struct {
	number int
	text   string
}

// reading is what a line says: a point, a rule that it breaks, to stop, or, if it is empty, nothing.
type reading struct {
	number int
	point  api.Point
	rule   int
	stop   bool
}

func (l line) read() reading {
	r := reading{number: l.number}
	switch l.text {
	case "":
	case Stop:
		r.stop = true
	default:
		r.point, r.rule = statsd.Line(l.text)
	}
	return r
}

// tallyOf is what lines come to, by their readings in order.
func tallyOf(l []reading) api.Tally {
	var t api.Tally
	var points []api.Point
	for _, r := range l {
		if r.stop {
			t.Stopped = true
			break
		}
		t.Taken++
		switch {
		case r.rule != 0:
			t.Faults = append(t.Faults, api.Fault{Line: r.number, Rule: r.rule})
		case r.point.Kind != api.PointNone:
			points = append(points, r.point)
		}
	}
	t.Stats, _ = statsd.Fold(nil, points)
	return t
}
