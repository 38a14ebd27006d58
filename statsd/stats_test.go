package statsd_test

import (
	"math"
	"math/big"
	"math/rand"
	"reflect"
	"slices"
	"strings"
	"testing"

	"abacus/api"
	"abacus/labels"
	"abacus/statsd"
)

// rightStat is a right stat of a kind.
func rightStat(kind api.PointKind, name string, words ...string) api.Stat {
	s := api.Stat{Kind: kind, Name: name, Labels: of(words...), Count: 2}
	switch kind {
	case count:
		s.Sum = 5
	case gauge:
		s.Last = 7
	case times, hist:
		s.Sum, s.Least, s.Greatest = 5, 2, 3
	case api.PointSet:
		s.Texts = []string{"x", "y"}
	}
	return s
}

var allKinds = []api.PointKind{count, gauge, times, hist, api.PointSet}

// rightStats holds whether stats are right, wherever it is asked.
func rightStats(t *testing.T, want bool, l ...api.Stat) {
	t.Helper()
	if statsd.RightStats(l) != want {
		t.Errorf("RightStats(%v) is not %v", l, want)
	}
	why := api.OK
	if !want {
		why = api.ErrStat
	}
	folded, e := statsd.Fold(l, nil)
	if e != why || !want && folded != nil || want && !areSameStats(folded, l) {
		t.Errorf("Fold(%v): %v, error %d", l, folded, e)
	}
	for _, both := range [][2][]api.Stat{{l, nil}, {nil, l}} {
		merged, e := statsd.Merge(both[0], both[1])
		if e != why || !want && merged != nil || want && !areSameStats(merged, l) {
			t.Errorf("Merge(%v): %v, error %d", both, merged, e)
		}
	}
	if !want {
		if l, e := statsd.Fold(l, []api.Point{{}}); l != nil || e != api.ErrStat { // ahead of ErrPoint
			t.Errorf("Fold: %v, error %d", l, e)
		}
	}
}

func TestRightStats(t *testing.T) { // 16.3
	rightStats(t, true)
	changes := map[string]func(*api.Stat){
		"count 0":    func(s *api.Stat) { s.Count = 0 },
		"count -1":   func(s *api.Stat) { s.Count = math.MinInt64 },
		"count 1":    func(s *api.Stat) { s.Count = 1 },
		"sum 0":      func(s *api.Stat) { s.Sum = 0 },
		"sum 1":      func(s *api.Stat) { s.Sum = 1 },
		"sum -1":     func(s *api.Stat) { s.Sum = math.MinInt64 },
		"last 0":     func(s *api.Stat) { s.Last = 0 },
		"last -1":    func(s *api.Stat) { s.Last = math.MinInt64 },
		"least -1":   func(s *api.Stat) { s.Least = -1 },
		"least 0":    func(s *api.Stat) { s.Least = 0 },
		"least 1":    func(s *api.Stat) { s.Least = 1 },
		"least 3":    func(s *api.Stat) { s.Least = 3 },
		"least 4":    func(s *api.Stat) { s.Least = 4 },
		"greatest 0": func(s *api.Stat) { s.Greatest = 0 },
		"greatest 2": func(s *api.Stat) { s.Greatest = 2 },
		"greatest -": func(s *api.Stat) { s.Greatest = -1 },
		"most":       func(s *api.Stat) { s.Greatest = api.MaxAmount - 1 },
		"more":       func(s *api.Stat) { s.Greatest = api.MaxAmount },
		"no texts":   func(s *api.Stat) { s.Texts = nil },
		"of none":    func(s *api.Stat) { s.Texts = []string{} },
		"text":       func(s *api.Stat) { s.Texts = []string{"é"} },
		"falling":    func(s *api.Stat) { s.Texts = []string{"y", "x"} },
		"twice":      func(s *api.Stat) { s.Texts = []string{"x", "x"} },
		"of bytes":   func(s *api.Stat) { s.Texts = []string{"B", "a", "aa", "é", "😀"} },
		"empty text": func(s *api.Stat) { s.Texts = []string{"", "x"} },
		"no text":    func(s *api.Stat) { s.Texts = []string{"\xff"} },
		"cut text":   func(s *api.Stat) { s.Texts = []string{"a|b"} },
		"broken":     func(s *api.Stat) { s.Texts = []string{"a", "b\n"} },
		"long":       func(s *api.Stat) { s.Texts = []string{strings.Repeat("x", api.MaxValue+1)} },
		"longest":    func(s *api.Stat) { s.Texts = []string{strings.Repeat("x", api.MaxValue)} },
		"name":       func(s *api.Stat) { s.Name = "9" },
		"empty name": func(s *api.Stat) { s.Name = "" },
		"braced":     func(s *api.Stat) { s.Name = "a{}" },
		"long name":  func(s *api.Stat) { s.Name = longName + "x" },
		"full name":  func(s *api.Stat) { s.Name = longName },
		"labels":     func(s *api.Stat) { s.Labels = of("b", "x", "a", "x") },
		"tag":        func(s *api.Stat) { s.Labels = of("a", "x,y") },
		"full set":   func(s *api.Stat) { s.Labels = many(api.MaxLabels) },
		"over-full":  func(s *api.Stat) { s.Labels = many(api.MaxLabels + 1) },
		"kind 0":     func(s *api.Stat) { s.Kind = 0 },
		"no kind":    func(s *api.Stat) { s.Kind = api.PointKinds },
		"far kind":   func(s *api.Stat) { s.Kind = 255 },
	}
	may := map[api.PointKind]string{
		count:        "count 0,count -1,count 1,sum 0,sum 1,sum -1,last 0,least 0,greatest 0,no texts,of none,full name,full set",
		gauge:        "count 1,sum 0,last 0,last -1,least 0,greatest 0,no texts,of none,full name,full set",
		times:        "count 1,sum 0,sum 1,sum -1,last 0,least 0,least 1,least 3,greatest 2,most,no texts,of none,full name,full set",
		hist:         "count 1,sum 0,sum 1,sum -1,last 0,least 0,least 1,least 3,greatest 2,most,no texts,of none,full name,full set",
		api.PointSet: "count 1,sum 0,last 0,least 0,greatest 0,text,of bytes,longest,full name,full set",
	}
	for _, kind := range allKinds {
		rightStats(t, true, rightStat(kind, "a", "b", "c"))
		for name, change := range changes {
			s := rightStat(kind, "a", "b", "c")
			change(&s)
			rightStats(t, slices.Contains(strings.Split(may[kind], ","), name), s)
			if t.Failed() {
				t.Fatal(kind, name)
			}
		}
	}
	rightStats(t, false, api.Stat{})
	for _, kind := range []api.PointKind{0, api.PointKinds, 255} {
		rightStats(t, false, api.Stat{Kind: kind, Name: "a", Count: 1})
	}
	bad := rightStat(count, "b")
	bad.Last = 1
	rightStats(t, false, rightStat(count, "a"), bad, rightStat(count, "c"))
}

func TestRightKeys(t *testing.T) { // 16.3
	rising := []api.Stat{
		rightStat(count, "B"), rightStat(count, "a"), rightStat(count, "a", "a", "x"), rightStat(count, "a", "a", "x", "b", "x"), rightStat(count, "a", "a", "y"), rightStat(count, "a", "b", "a"), rightStat(count, "a-b"), rightStat(count, "a.b"), rightStat(count, "a_b"), rightStat(count, "aa"),
		rightStat(gauge, "a"), rightStat(gauge, "b"), rightStat(times, "a"), rightStat(hist, "a"), rightStat(hist, "a", "a", "x"), rightStat(api.PointSet, "a"),
	}
	rightStats(t, true, rising...)
	for i := range rising {
		rightStats(t, false, append(slices.Clone(rising[:i+1]), rising[i:]...)...)
		for j := range i {
			rightStats(t, true, rising[j], rising[i])
			rightStats(t, false, rising[i], rising[j])
		}
	}
}

// folded are stats by the document's words, in a plain list; sums in big numbers, and Count too.
type folded struct {
	stats      []api.Stat
	counts     []*big.Int
	sums, last []*big.Int
}

// wrapped is a number modulo 2^64, as an int64.
func wrapped(n *big.Int) int64 {
	return int64(new(big.Int).And(n, new(big.Int).SetUint64(math.MaxUint64)).Uint64())
}

func (f *folded) find(kind api.PointKind, name string, set []api.Label) (int, bool) {
	for i, s := range f.stats {
		if s.Kind == kind && s.Name == name && slices.Equal(s.Labels, set) {
			return i, false
		}
	}
	f.stats = append(f.stats, api.Stat{Kind: kind, Name: name, Labels: set})
	f.counts, f.sums, f.last = append(f.counts, new(big.Int)), append(f.sums, new(big.Int)), append(f.last, new(big.Int))
	return len(f.stats) - 1, true
}

func (f *folded) add(s api.Stat) {
	i, isNew := f.find(s.Kind, s.Name, s.Labels)
	f.counts[i].Add(f.counts[i], big.NewInt(s.Count))
	f.sums[i].Add(f.sums[i], big.NewInt(s.Sum))
	f.last[i].SetInt64(s.Last)
	f.reach(i, isNew, s.Least, s.Greatest)
	f.members(i, s.Texts...)
}

func (f *folded) reach(i int, isNew bool, least, greatest int64) {
	if s := &f.stats[i]; isNew {
		s.Least, s.Greatest = least, greatest
	} else {
		s.Least, s.Greatest = min(s.Least, least), max(s.Greatest, greatest)
	}
}

func (f *folded) members(i int, texts ...string) {
	for _, text := range texts {
		if !slices.Contains(f.stats[i].Texts, text) {
			f.stats[i].Texts = append(slices.Clone(f.stats[i].Texts), text)
		}
	}
}

func (f *folded) take(p api.Point) {
	i, isNew := f.find(p.Kind, p.Name, p.Labels)
	f.counts[i].Add(f.counts[i], big.NewInt(p.Weight))
	value := big.NewInt(p.Value)
	switch p.Kind {
	case gauge:
		if !p.Rel {
			f.last[i].SetInt64(0)
		}
		f.last[i].Add(f.last[i], value)
	case api.PointSet:
		f.members(i, p.Text)
	default:
		f.sums[i].Add(f.sums[i], value.Mul(value, big.NewInt(p.Weight)))
	}
	if p.Kind == times || p.Kind == hist {
		f.reach(i, isNew, p.Value, p.Value)
	}
}

func (f *folded) all() []api.Stat {
	var l []api.Stat
	for i, s := range f.stats {
		s.Count, s.Sum, s.Last = wrapped(f.counts[i]), wrapped(f.sums[i]), wrapped(f.last[i])
		s.Texts = slices.Sorted(slices.Values(s.Texts))
		l = append(l, s)
	}
	for i := range l { // a plain sort, by the words
		for j := range i {
			if isAhead(l[i], l[j]) {
				l[i], l[j] = l[j], l[i]
			}
		}
	}
	return l
}

func isAhead(a, b api.Stat) bool {
	switch {
	case a.Kind != b.Kind:
		return a.Kind < b.Kind
	case a.Name != b.Name:
		return a.Name < b.Name
	}
	return labels.Compare(a.Labels, b.Labels) < 0
}

func folds(t *testing.T, l []api.Stat, p []api.Point, want ...api.Stat) {
	t.Helper()
	if got, why := statsd.Fold(l, p); why != api.OK || !areSameStats(got, want) {
		t.Errorf("Fold(%v, %v): %v, error %d, want %v", l, p, got, why, want)
	}
}

func merges(t *testing.T, a, b []api.Stat, want ...api.Stat) {
	t.Helper()
	if got, why := statsd.Merge(a, b); why != api.OK || !areSameStats(got, want) {
		t.Errorf("Merge(%v, %v): %v, error %d, want %v", a, b, got, why, want)
	}
}

func TestFold(t *testing.T) { // 16.4, example 4
	folds(t, nil, nil)
	hits := point(count, "hits", 2000000)
	folds(t, nil, []api.Point{weighed(hits, 10), point(count, "hits", 1000000)}, api.Stat{Kind: count, Name: "hits", Count: 11, Sum: 21000000})
	g := point(gauge, "g", 5000000)
	folds(t, nil, []api.Point{g, rel(point(gauge, "g", 2000000))}, api.Stat{Kind: gauge, Name: "g", Count: 2, Last: 7000000})
	folds(t, nil, []api.Point{rel(point(gauge, "g", -2000000))}, api.Stat{Kind: gauge, Name: "g", Count: 1, Last: -2000000})
	folds(t, nil, []api.Point{rel(point(gauge, "g", 1)), g}, api.Stat{Kind: gauge, Name: "g", Count: 2, Last: 5000000})
	last := []api.Stat{{Kind: gauge, Name: "g", Count: 3, Last: 4}}
	folds(t, last, []api.Point{rel(point(gauge, "g", -7))}, api.Stat{Kind: gauge, Name: "g", Count: 4, Last: -3})
	folds(t, last, []api.Point{g}, api.Stat{Kind: gauge, Name: "g", Count: 4, Last: 5000000})
	for _, kind := range []api.PointKind{times, hist} {
		folds(t, nil, []api.Point{weighed(point(kind, "t", 5), 3)}, api.Stat{Kind: kind, Name: "t", Count: 3, Sum: 15, Least: 5, Greatest: 5})
		folds(t, nil, []api.Point{point(kind, "t", 5), point(kind, "t", 9), point(kind, "t", 7)}, api.Stat{Kind: kind, Name: "t", Count: 3, Sum: 21, Least: 5, Greatest: 9})
		folds(t, []api.Stat{{Kind: kind, Name: "t", Count: 1, Sum: 4, Least: 4, Greatest: 6}}, []api.Point{point(kind, "t", 0)}, api.Stat{Kind: kind, Name: "t", Count: 2, Sum: 4, Greatest: 6})
	}
	folds(t, nil, []api.Point{member("u", "y"), member("u", "x"), member("u", "y")}, api.Stat{Kind: api.PointSet, Name: "u", Count: 3, Texts: []string{"x", "y"}})
	folds(t, nil, []api.Point{point(hist, "b", 1), point(count, "b", 1, "x", "y"), point(count, "b", 1), member("a", "x"), point(times, "a", 1), point(gauge, "a", 1), point(count, "B", 1)},
		api.Stat{Kind: count, Name: "B", Count: 1, Sum: 1}, api.Stat{Kind: count, Name: "b", Count: 1, Sum: 1}, api.Stat{Kind: count, Name: "b", Labels: of("x", "y"), Count: 1, Sum: 1},
		api.Stat{Kind: gauge, Name: "a", Count: 1, Last: 1}, api.Stat{Kind: times, Name: "a", Count: 1, Sum: 1, Least: 1, Greatest: 1}, api.Stat{Kind: hist, Name: "b", Count: 1, Sum: 1, Least: 1, Greatest: 1}, api.Stat{Kind: api.PointSet, Name: "a", Count: 1, Texts: []string{"x"}})
	for _, bad := range []api.Point{{}, point(count, "9", 1), point(times, "a", -1), member("a", "")} {
		if l, why := statsd.Fold(nil, []api.Point{hits, bad, hits}); l != nil || why != api.ErrPoint {
			t.Errorf("Fold of %v: %v, error %d", bad, l, why)
		}
	}
}

func TestWrapRound(t *testing.T) { // 16.4
	great := func(kind api.PointKind) []api.Stat {
		s := rightStat(kind, "a")
		s.Count = math.MaxInt64
		return []api.Stat{s}
	}
	for _, kind := range allKinds {
		p := point(kind, "a", 0)
		if kind == api.PointSet {
			p = member("a", "x")
		}
		l, why := statsd.Fold(great(kind), []api.Point{p})
		if why != api.OK || len(l) != 1 || l[0].Count != math.MinInt64 || statsd.RightStats(l) != (kind == count) {
			t.Errorf("of the kind %d: %v, error %d", kind, l, why)
		}
		l, why = statsd.Merge(great(kind), great(kind))
		if why != api.OK || len(l) != 1 || l[0].Count != -2 {
			t.Errorf("of the kind %d: %v, error %d", kind, l, why)
		}
	}
	sums := []api.Stat{{Kind: count, Name: "a", Count: 1, Sum: math.MaxInt64}}
	folds(t, sums, []api.Point{weighed(point(count, "a", api.MaxAmount-1), api.MaxWeight)}, api.Stat{Kind: count, Name: "a", Count: 1 + api.MaxWeight, Sum: -9223372036854775808 + 999999999999000000 - 1})
	sums[0].Sum = math.MinInt64
	folds(t, sums, []api.Point{point(count, "a", -1)}, api.Stat{Kind: count, Name: "a", Count: 2, Sum: math.MaxInt64})
	merges(t, sums, sums, api.Stat{Kind: count, Name: "a", Count: 2})
	lasts := []api.Stat{{Kind: gauge, Name: "a", Count: 1, Last: math.MaxInt64}}
	folds(t, lasts, []api.Point{rel(point(gauge, "a", 1))}, api.Stat{Kind: gauge, Name: "a", Count: 2, Last: math.MinInt64})
	zero := []api.Stat{{Kind: count, Name: "a", Count: -1, Sum: 0}}
	folds(t, zero, []api.Point{point(count, "a", 0)}, api.Stat{Kind: count, Name: "a"}) // it stays
	merges(t, zero, []api.Stat{{Kind: count, Name: "a", Count: 1}}, api.Stat{Kind: count, Name: "a"})
}

func TestMerge(t *testing.T) { // 16.4
	merges(t, nil, nil)
	a := []api.Stat{{Kind: count, Name: "a", Count: 1, Sum: 2}, {Kind: gauge, Name: "a", Count: 1, Last: 2}, {Kind: times, Name: "a", Count: 1, Sum: 2, Least: 3, Greatest: 4}, {Kind: hist, Name: "a", Count: 1, Sum: 2, Least: 3, Greatest: 4}, {Kind: api.PointSet, Name: "a", Count: 1, Texts: []string{"b", "d"}}}
	b := []api.Stat{{Kind: count, Name: "a", Count: 10, Sum: -20}, {Kind: gauge, Name: "a", Count: 10, Last: -20}, {Kind: times, Name: "a", Count: 10, Sum: 20, Least: 2, Greatest: 3}, {Kind: hist, Name: "a", Count: 10, Sum: 20, Least: 4, Greatest: 5}, {Kind: api.PointSet, Name: "a", Count: 10, Texts: []string{"a", "d", "e"}}}
	merges(t, a, b, api.Stat{Kind: count, Name: "a", Count: 11, Sum: -18}, api.Stat{Kind: gauge, Name: "a", Count: 11, Last: -20}, api.Stat{Kind: times, Name: "a", Count: 11, Sum: 22, Least: 2, Greatest: 4}, api.Stat{Kind: hist, Name: "a", Count: 11, Sum: 22, Least: 3, Greatest: 5}, api.Stat{Kind: api.PointSet, Name: "a", Count: 11, Texts: []string{"a", "b", "d", "e"}})
	zero := []api.Stat{{Kind: gauge, Name: "a", Count: 1}}
	merges(t, a[1:2], zero, api.Stat{Kind: gauge, Name: "a", Count: 2})
	merges(t, zero, a[1:2], api.Stat{Kind: gauge, Name: "a", Count: 2, Last: 2})
	merges(t, []api.Stat{rightStat(count, "b"), rightStat(gauge, "a")}, []api.Stat{rightStat(count, "a"), rightStat(count, "b", "x", "y"), rightStat(hist, "a")}, rightStat(count, "a"), rightStat(count, "b"), rightStat(count, "b", "x", "y"), rightStat(gauge, "a"), rightStat(hist, "a"))
	bad := []api.Stat{rightStat(count, "b"), rightStat(count, "a")}
	for _, both := range [][2][]api.Stat{{a, bad}, {bad, a}, {bad, bad}} {
		if l, why := statsd.Merge(both[0], both[1]); l != nil || why != api.ErrStat {
			t.Errorf("Merge(%v): %v, error %d", both, l, why)
		}
	}
}

// No two keys are one, whatever signs their texts have.
func TestKeys(t *testing.T) { // 16.4
	l := []api.Point{
		point(count, "a", 1, "b", `x"`), point(count, "a", 1, "b", `x\`), point(count, "a", 1, "b", "x", "c", "y"), point(count, "a", 1, "b", `x";c="y`), point(count, "a", 1, "bc", "x"), point(count, "ab", 1, "c", "x"), point(count, "a", 1),
		point(gauge, "a", 1), member("a", "x"), point(times, "a", 1), point(hist, "a", 1),
	}
	got, why := statsd.Fold(nil, l)
	if why != api.OK || len(got) != len(l) || !statsd.RightStats(got) {
		t.Errorf("%d keys come to %v, error %d", len(l), got, why)
	}
	folds(t, nil, []api.Point{{Kind: count, Name: "a", Weight: 1}, {Kind: count, Name: "a", Labels: []api.Label{}, Weight: 1}}, api.Stat{Kind: count, Name: "a", Count: 2})
}

func TestFoldOfAny(t *testing.T) { // 16.4, 16.7, P3
	r := rand.New(rand.NewSource(4))
	for range 4000 {
		p, q := somePoints(r, 30), somePoints(r, 30)
		kept := clonePoints(p)
		var want folded
		for _, x := range p {
			want.take(x)
		}
		l, why := statsd.Fold(nil, p)
		if why != api.OK || !areSameStats(l, want.all()) || !statsd.RightStats(l) {
			t.Fatalf("Fold(%v): %v, error %d, want %v", p, l, why, want.all())
		}
		for _, x := range q {
			want.take(x)
		}
		before := cloneStats(l)
		m, why := statsd.Fold(l, q)
		both, _ := statsd.Fold(nil, append(slices.Clone(p), q...))
		if why != api.OK || !areSameStats(m, want.all()) || !reflect.DeepEqual(both, m) {
			t.Fatalf("Fold(%v, %v): %v, error %d, want %v", l, q, m, why, want.all())
		}
		if !areSameStats(l, before) || !areSamePoints(p, kept) {
			t.Fatal("what was handed in is changed")
		}
	}
}

func TestMergeOfAny(t *testing.T) { // 16.4, 16.8, P11
	r := rand.New(rand.NewSource(5))
	for range 4000 {
		p, q := somePoints(r, 30), somePoints(r, 30)
		l, _ := statsd.Fold(nil, p)
		m, _ := statsd.Fold(nil, q)
		var want folded
		for _, s := range append(slices.Clone(l), m...) {
			want.add(s)
		}
		keptL, keptM := cloneStats(l), cloneStats(m)
		both, why := statsd.Merge(l, m)
		if why != api.OK || !areSameStats(both, want.all()) || !statsd.RightStats(both) {
			t.Fatalf("Merge(%v, %v): %v, error %d, want %v", l, m, both, why, want.all())
		}
		if !areSameStats(l, keptL) || !areSameStats(m, keptM) {
			t.Fatal("what was handed in is changed")
		}
		p = slices.DeleteFunc(p, func(x api.Point) bool { return x.Rel })
		q = slices.DeleteFunc(q, func(x api.Point) bool { return x.Rel })
		isMerged(t, p, q)
		p = slices.DeleteFunc(p, func(x api.Point) bool { return x.Kind == gauge })
		q = slices.DeleteFunc(q, func(x api.Point) bool { return x.Kind == gauge })
		isMerged(t, p, q)
		isMerged(t, q, p)
		one, _ := statsd.Fold(nil, append(slices.Clone(p), q...))
		other, _ := statsd.Fold(nil, append(slices.Clone(q), p...))
		if !reflect.DeepEqual(one, other) {
			t.Fatalf("of %v and %v the order is seen", p, q)
		}
	}
}

// isMerged holds that what two lists come to, merged, is what both come to.
func isMerged(t *testing.T, p, q []api.Point) {
	t.Helper()
	l, _ := statsd.Fold(nil, p)
	m, _ := statsd.Fold(nil, q)
	merged, _ := statsd.Merge(l, m)
	both, _ := statsd.Fold(nil, append(slices.Clone(p), q...))
	if !areSameStats(merged, both) {
		t.Fatalf("of %v, %v: merged %v, both %v", p, q, merged, both)
	}
}

func TestPointsOfWeight(t *testing.T) { // 16.9
	for _, w := range []int64{1, 2, 3, 10, 333, 1000} {
		p := weighed(point(count, "a", -1500000, "b", "c"), w)
		l, _ := statsd.Fold(nil, []api.Point{p})
		m, _ := statsd.Fold(nil, slices.Repeat([]api.Point{weighed(p, 1)}, int(w)))
		if !areSameStats(l, m) || l[0].Count != w {
			t.Errorf("of the weight %d: %v, %v", w, l, m)
		}
	}
}

func TestStatsMemory(t *testing.T) { // 16.5
	p := []api.Point{member("u", "x", "a", "b"), member("u", "y", "a", "b"), member("v", "x", "a", "b"), point(count, "c", 1, "a", "b"), point(count, "d", 1, "a", "b")}
	keptPoints := clonePoints(p)
	l, _ := statsd.Fold(nil, p)
	kept := cloneStats(l)
	answers := func() [][]api.Stat {
		folded, _ := statsd.Fold(l, p[:1])
		alone, _ := statsd.Fold(l, nil)
		first, _ := statsd.Merge(l, nil)
		second, _ := statsd.Merge(nil, l)
		both, _ := statsd.Merge(l, l)
		return [][]api.Stat{folded, alone, first, second, both}
	}
	for _, m := range answers() {
		rest := cloneStats(m)
		for i := range m {
			spoil(m[i].Labels)
			m[i].Labels, rest[i].Labels = nil, nil
			if !areSameStats(m, rest) {
				t.Fatal("two lists are one:", m)
			}
			spoil(m[i].Texts)
			m[i].Texts, rest[i].Texts = nil, nil
			if !areSameStats(m, rest) {
				t.Fatal("two lists are one:", m)
			}
		}
		spoil(m)
	}
	if !areSameStats(l, kept) || !areSamePoints(p, keptPoints) {
		t.Error("what was handed in is changed")
	}
	m := answers()[1]
	spoil(l[0].Labels)
	spoil(l[2].Texts)
	spoil(p[0].Labels)
	if !areSameStats(m, kept) {
		t.Error("what was handed in is kept")
	}
}
