package statsd_test

import (
	"math/rand"
	"reflect"
	"slices"
	"strings"
	"testing"

	"abacus/api"
	"abacus/statsd"
)

// of are labels, of names and values.
func of(words ...string) []api.Label {
	var l []api.Label
	for i := 0; i+1 < len(words); i += 2 {
		l = append(l, api.Label{Name: words[i], Value: words[i+1]})
	}
	return l
}

// many are so many labels, as a set but for their number.
func many(n int) []api.Label {
	var l []api.Label
	for i := range n {
		l = append(l, api.Label{Name: "n" + string(rune('A'+i/26)) + string(rune('a'+i%26)), Value: "x"})
	}
	return l
}

func point(kind api.PointKind, name string, value int64, words ...string) api.Point {
	return api.Point{Kind: kind, Name: name, Labels: of(words...), Value: value, Weight: 1}
}

func weighed(p api.Point, weight int64) api.Point {
	p.Weight = weight
	return p
}

func rel(p api.Point) api.Point {
	p.Rel = true
	return p
}

func member(name, text string, words ...string) api.Point {
	return api.Point{Kind: api.PointSet, Name: name, Labels: of(words...), Weight: 1, Text: text}
}

// plainPoint is a point in which nil and empty lists are one.
func plainPoint(p api.Point) api.Point {
	if len(p.Labels) == 0 {
		p.Labels = nil
	}
	return p
}

func plainPoints(l []api.Point) []api.Point {
	all := []api.Point{}
	for _, p := range l {
		all = append(all, plainPoint(p))
	}
	return all
}

func plainStats(l []api.Stat) []api.Stat {
	all := []api.Stat{}
	for _, s := range l {
		if len(s.Labels) == 0 {
			s.Labels = nil
		}
		if len(s.Texts) == 0 {
			s.Texts = nil
		}
		all = append(all, s)
	}
	return all
}

func isSamePoint(p, q api.Point) bool {
	return reflect.DeepEqual(plainPoint(p), plainPoint(q))
}

func areSamePoints(a, b []api.Point) bool {
	return reflect.DeepEqual(plainPoints(a), plainPoints(b))
}

func areSameStats(a, b []api.Stat) bool {
	return reflect.DeepEqual(plainStats(a), plainStats(b))
}

func clonePoints(l []api.Point) []api.Point {
	l = slices.Clone(l)
	for i := range l {
		l[i].Labels = slices.Clone(l[i].Labels)
	}
	return l
}

func cloneStats(l []api.Stat) []api.Stat {
	l = slices.Clone(l)
	for i := range l {
		l[i].Labels, l[i].Texts = slices.Clone(l[i].Labels), slices.Clone(l[i].Texts)
	}
	return l
}

// spoil writes over all that a list has, its spare room too.
func spoil[T any](l []T) {
	clear(l[:cap(l)])
}

func says(t *testing.T, line string, want api.Point) {
	t.Helper()
	if p, rule := statsd.Line(line); rule != 0 || !isSamePoint(p, want) {
		t.Errorf("Line(%.200q): %v, rule %d, want %v", line, p, rule, want)
	}
}

func breaks(t *testing.T, line string, want int) {
	t.Helper()
	if p, rule := statsd.Line(line); rule != want || !isSamePoint(p, api.Point{}) {
		t.Errorf("Line(%.200q): %v, rule %d, want rule %d", line, p, rule, want)
	}
}

func prints(t *testing.T, p api.Point, want string) {
	t.Helper()
	if text, why := statsd.Print(p); text != want || why != api.OK {
		t.Errorf("Print(%v): %.200q, error %d, want %.200q", p, text, why, want)
	}
}

func right(t *testing.T, p api.Point, want bool) {
	t.Helper()
	if statsd.Right(p) != want {
		t.Errorf("Right(%v) is not %v", p, want)
	}
	text, why := statsd.Print(p)
	if want != (why == api.OK) || !want && (why != api.ErrPoint || text != "") {
		t.Errorf("Print(%v): %.200q, error %d", p, text, why)
	}
	if _, why := statsd.Fold(nil, []api.Point{p}); want != (why == api.OK) || !want && why != api.ErrPoint {
		t.Errorf("Fold of %v: error %d", p, why)
	}
}

func one(r *rand.Rand, l ...string) string {
	return l[r.Intn(len(l))]
}

func someSet(r *rand.Rand) []api.Label {
	var l []api.Label
	for _, name := range []string{"a", "b", "job"} {
		if r.Intn(3) == 0 {
			l = append(l, api.Label{Name: name, Value: one(r, "x", "y", ":", "é{}", "\"\\", "#@")})
		}
	}
	return l
}

func someAmount(r *rand.Rand) int64 {
	switch r.Intn(4) {
	case 0:
		return r.Int63n(api.MaxAmount)
	case 1:
		return int64(r.Intn(20)) * 100000
	case 2:
		return []int64{0, 1, 1000000, api.MaxAmount - 1, api.MaxAmount - 1000000, 999999}[r.Intn(6)]
	}
	return int64(r.Intn(5)) * 1000000
}

// somePoint is a right one.
func somePoint(r *rand.Rand) api.Point {
	p := api.Point{Kind: api.PointKind(1 + r.Intn(5)), Name: one(r, "a", "b.c", "_x-1"), Labels: someSet(r), Value: someAmount(r), Weight: 1}
	switch p.Kind {
	case api.PointSet:
		p.Value, p.Text = 0, one(r, "x", "y", "z:1", "é", "#", "@0.1", " ", ",", "-1")
		return p
	case api.PointGauge:
		p.Rel = r.Intn(2) == 0
	default:
		p.Weight = []int64{1, 1, 2, 3, 10, 100, 1000000, 333, 7}[r.Intn(9)]
	}
	if (p.Rel || p.Kind == api.PointCount) && r.Intn(2) == 0 {
		p.Value = -p.Value
	}
	return p
}

func somePoints(r *rand.Rand, n int) []api.Point {
	var l []api.Point
	for range r.Intn(n + 1) {
		l = append(l, somePoint(r))
	}
	return l
}

// longName has as many bytes as a name may have.
var longName = "n" + strings.Repeat(".", api.MaxName-1)
