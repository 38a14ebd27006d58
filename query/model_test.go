package query_test

import (
	"maps"
	"math"
	"math/big"
	"math/rand"
	"reflect"
	"slices"
	"strconv"
	"testing"

	"abacus/api"
	"abacus/labels"
	"abacus/query"
	"abacus/store"
)

// world is what a store is told, in plain lists; by it questions are answered a second time.
type world struct {
	sets  [][]api.Label
	dots  [][]api.Dot
	floor int64
}

// exactly is the sum of floats, divided by a number, told as the document tells sums.
func exactly(l []float64, by int) float64 {
	sum := new(big.Float).SetPrec(4000)
	up, down, onlyMinus := false, false, len(l) > 0
	for _, x := range l {
		switch {
		case math.IsNaN(x):
			return math.NaN()
		case math.IsInf(x, 1):
			up = true
		case math.IsInf(x, -1):
			down = true
		default:
			sum.Add(sum, new(big.Float).SetPrec(4000).SetFloat64(x))
		}
		onlyMinus = onlyMinus && x == 0 && math.Signbit(x)
	}
	switch {
	case up && down:
		return math.NaN()
	case up:
		return inf
	case down:
		return -inf
	case onlyMinus:
		return minus
	}
	x, _ := sum.Quo(sum, new(big.Float).SetPrec(4000).SetInt64(int64(by))).Float64()
	return x + 0
}

// extreme is the least of floats that are numbers (turned: the greatest), -0 below 0.
func extreme(l []float64, turned bool) float64 {
	l = slices.DeleteFunc(slices.Clone(l), math.IsNaN)
	if len(l) == 0 {
		return math.NaN()
	}
	slices.SortFunc(l, func(a, b float64) int {
		switch {
		case a < b, a == b && math.Signbit(a) && !math.Signbit(b):
			return -1
		case b < a, a == b && math.Signbit(b) && !math.Signbit(a):
			return 1
		}
		return 0
	})
	if turned {
		return l[len(l)-1]
	}
	return l[0]
}

func taken(word string, l []float64) float64 {
	switch word {
	case "sum", "sum_over_time":
		return exactly(l, 1)
	case "avg", "avg_over_time":
		return exactly(l, len(l))
	case "min", "min_over_time":
		return extreme(l, false)
	case "max", "max_over_time":
		return extreme(l, true)
	case "count", "count_over_time":
		return float64(len(l))
	}
	return l[len(l)-1]
}

func grown(l []float64) float64 {
	var steps []float64
	for i := 1; i < len(l); i++ {
		step := l[i]
		if l[i] >= l[i-1] {
			step -= l[i-1]
		}
		steps = append(steps, step)
	}
	return exactly(steps, 1)
}

func reckon(op string, a, b float64) float64 {
	return map[string]float64{"+": a + b, "-": a - b, "*": a * b, "/": a / b}[op]
}

// answer is a number, or rows by the texts of their labels.
type answer struct {
	number bool
	x      float64
	rows   map[string]float64
}

func key(set []api.Label) string {
	text, _ := labels.Print(set)
	return text
}

func setOf(key string) []api.Label {
	set, _, _ := labels.Parse(key)
	return set
}

// unnamed are rows without the name label.
func unnamed(rows map[string]float64) (map[string]float64, api.Errno) {
	l := map[string]float64{}
	for k, x := range rows {
		k = key(labels.Without(setOf(k), []string{"__name__"}))
		if _, is := l[k]; is {
			return nil, api.ErrTwin
		}
		l[k] = x
	}
	return l, api.OK
}

// spans are the values of a select's series in a span.
func (w *world) spans(e api.Expr, at, span int64) (map[string][]float64, api.Errno) {
	all := map[string][]float64{}
	until := at - e.Offset
	if until < 0 {
		return all, api.OK
	}
	from := until - span + 1
	if from < 0 {
		from = 0
	}
	for i, set := range w.sets {
		if is, _ := labels.Matches(set, e.Match); !is {
			continue
		}
		if from < w.floor {
			return nil, api.ErrGone
		}
		for _, d := range w.dots[i] {
			if d.At >= from && d.At <= until {
				all[key(set)] = append(all[key(set)], d.V)
			}
		}
	}
	return all, api.OK
}

func (w *world) ask(e api.Expr, at int64) (answer, api.Errno) {
	rows := map[string]float64{}
	switch e.Kind {
	case api.ExprNumber:
		return answer{number: true, x: e.X}, api.OK
	case api.ExprSelect:
		all, why := w.spans(e, at, api.LookBack)
		for k, l := range all {
			rows[k] = l[len(l)-1]
		}
		return answer{rows: rows}, why
	case api.ExprCall:
		all, why := w.spans(e.Kids[0], at, e.Kids[0].Span)
		for k, l := range all {
			switch {
			case e.Op != "rate" && e.Op != "increase":
				rows[k] = taken(e.Op, l)
			case len(l) < 2:
			case e.Op == "rate":
				rows[k] = grown(l) / seconds(e.Kids[0].Span)
			default:
				rows[k] = grown(l)
			}
		}
		if why == api.OK {
			rows, why = unnamed(rows)
		}
		return answer{rows: rows}, why
	case api.ExprGroup:
		kid, why := w.ask(e.Kids[0], at)
		lists := map[string][]float64{}
		for _, k := range slices.Sorted(maps.Keys(kid.rows)) {
			var set []api.Label
			for _, x := range setOf(k) {
				if e.Group == api.GroupBy && slices.Contains(e.Names, x.Name) || e.Group == api.GroupWithout && !slices.Contains(e.Names, x.Name) && x.Name != "__name__" {
					set = append(set, x)
				}
			}
			lists[key(set)] = append(lists[key(set)], kid.rows[k])
		}
		for k, l := range lists {
			rows[k] = taken(e.Op, l)
		}
		return answer{rows: rows}, why
	}
	return w.binary(e, at)
}

func (w *world) binary(e api.Expr, at int64) (answer, api.Errno) {
	a, why := w.ask(e.Kids[0], at)
	if why != api.OK {
		return answer{}, why
	}
	b, why := w.ask(e.Kids[1], at)
	if why != api.OK {
		return answer{}, why
	}
	rows := map[string]float64{}
	switch {
	case e.Op == "<" || e.Op == ">":
		for k, x := range a.rows {
			if e.Op == "<" && x < b.x || e.Op == ">" && x > b.x {
				rows[k] = x
			}
		}
		return answer{rows: rows}, api.OK
	case a.number && b.number:
		return answer{number: true, x: reckon(e.Op, a.x, b.x)}, api.OK
	case a.number:
		for k, x := range b.rows {
			rows[k] = reckon(e.Op, a.x, x)
		}
		rows, why = unnamed(rows)
		return answer{rows: rows}, why
	case b.number:
		for k, x := range a.rows {
			rows[k] = reckon(e.Op, x, b.x)
		}
		rows, why = unnamed(rows)
		return answer{rows: rows}, why
	}
	first, why := unnamed(a.rows)
	second, wrong := unnamed(b.rows)
	if why != api.OK || wrong != api.OK {
		return answer{}, api.ErrTwin
	}
	for k, x := range first {
		if y, is := second[k]; is {
			rows[k] = reckon(e.Op, x, y)
		}
	}
	return answer{rows: rows}, api.OK
}

// canonical has one kind of what is no number.
func canonical(x float64) float64 {
	if math.IsNaN(x) {
		return math.Float64frombits(0x7ff8000000000001)
	}
	return x
}

// told is an answer as query.Ask gives it.
func (a answer) told() api.Answer {
	if a.number {
		return api.Answer{Type: api.TypeNumber, X: canonical(a.x)}
	}
	var rows []api.Rowed
	for k, x := range a.rows {
		rows = append(rows, api.Rowed{Labels: setOf(k), X: canonical(x)})
	}
	slices.SortFunc(rows, func(a, b api.Rowed) int { return labels.Compare(a.Labels, b.Labels) })
	return api.Answer{Type: api.TypeRows, Rows: rows}
}

// someWorld is a store with dots of few sets and values, within some ten minutes, and the same as a world.
func someWorld(t *testing.T, r *rand.Rand) (*store.Store, *world) {
	width := []int64{1, sec, 7 * sec}[r.Intn(3)]
	s, w := made(t, width), &world{}
	for range r.Intn(9) {
		var set []api.Label
		for _, name := range []string{"__name__", "a", "b"} {
			if r.Intn(4) > 0 {
				set = append(set, api.Label{Name: name, Value: []string{"a", "b", "c"}[r.Intn(3)]})
			}
		}
		if slices.ContainsFunc(w.sets, func(o []api.Label) bool { return slices.Equal(o, set) }) {
			continue
		}
		var dots []api.Dot
		at := r.Int63n(60 * sec)
		for range 1 + r.Intn(12) {
			v := []float64{0, minus, 1, 2, 3, 5, 0.1, 0.2, -1, 1e100, -1e100, inf, -inf}[r.Intn(9+r.Intn(5))]
			dots = append(dots, api.Dot{At: at, V: v})
			at += 1 + r.Int63n(sec*[]int64{1, 10, 100}[r.Intn(3)])
		}
		for _, d := range dots {
			if why := s.Append(set, d); why != api.OK {
				t.Fatal("Append:", why)
			}
		}
		w.sets, w.dots = append(w.sets, set), append(w.dots, dots)
	}
	if r.Intn(3) == 0 {
		before := r.Int63n(120 * sec)
		s.Trim(before)
		w.floor = before / width * width
	}
	return s, w
}

func pickOfAny(r *rand.Rand) api.Expr {
	e := pick()
	if r.Intn(2) == 0 {
		e = named([]string{"a", "b", "c"}[r.Intn(3)])
	}
	for range r.Intn(2) {
		e.Match = append(e.Match, api.Match{Kind: api.MatchKind(1 + r.Intn(4)), Name: []string{"a", "b"}[r.Intn(2)], Value: []string{"", "a", "b", "*", "?"}[r.Intn(5)]})
	}
	if r.Intn(3) == 0 {
		e.Offset = r.Int63n(300 * sec)
	}
	return e
}

// rowsOfAny is a question of rows, whose parts go together.
func rowsOfAny(r *rand.Rand, deep int) api.Expr {
	n := r.Intn(10)
	if deep == 0 {
		n = r.Intn(4)
	}
	switch n {
	case 0, 1:
		return pickOfAny(r)
	case 2, 3:
		return call(functionWords[r.Intn(len(functionWords))], over(pickOfAny(r), 1+r.Int63n(sec*[]int64{1, 10, 300, 3000}[r.Intn(4)])))
	case 4, 5:
		e := group(takingWords[r.Intn(len(takingWords))], rowsOfAny(r, deep-1))
		if e.Group = api.GroupKind(r.Intn(3)); e.Group != api.GroupAll {
			e.Names = slices.DeleteFunc([]string{"__name__", "a", "b"}, func(string) bool { return r.Intn(2) == 0 })
		}
		return e
	case 6:
		return both([]string{"<", ">"}[r.Intn(2)], rowsOfAny(r, deep-1), numberOfAny(r, deep-1))
	case 7:
		return both(allSigns[r.Intn(4)], rowsOfAny(r, deep-1), numberOfAny(r, deep-1))
	case 8:
		return both(allSigns[r.Intn(4)], numberOfAny(r, deep-1), rowsOfAny(r, deep-1))
	}
	return both(allSigns[r.Intn(4)], rowsOfAny(r, deep-1), rowsOfAny(r, deep-1))
}

func numberOfAny(r *rand.Rand, deep int) api.Expr {
	if deep == 0 || r.Intn(2) == 0 {
		return num([]float64{0, 1, 2, 0.1, 1e100}[r.Intn(5)])
	}
	return both(allSigns[r.Intn(4)], numberOfAny(r, deep-1), numberOfAny(r, deep-1))
}

func TestAnswersOfAny(t *testing.T) { // 25.4, 25.9, P3
	r := rand.New(rand.NewSource(4))
	found := map[api.Errno]int{}
	rows := 0
	for n := 0; n < 1500 && !t.Failed(); n++ {
		s, w := someWorld(t, r)
		for range 30 {
			e := rowsOfAny(r, r.Intn(4))
			if r.Intn(10) == 0 {
				e = numberOfAny(r, 4)
			}
			at := r.Int63n(700 * sec)
			model, wrong := w.ask(e, at)
			want := model.told()
			if wrong != api.OK {
				want = api.Answer{}
			}
			for range 2 {
				if a, why := query.Ask(s, e, at); !sameAnswer(a, want) || why != wrong || why != api.OK && !reflect.DeepEqual(a, api.Answer{}) {
					t.Errorf("%s at %d, of %v, %v, from %d on: %v, error %d, want %v, error %d", text(t, e), at, w.sets, w.dots, w.floor, a, why, want, wrong)
				}
			}
			found[wrong]++
			rows += len(want.Rows)
		}
	}
	if found[api.OK] < 5000 || found[api.ErrGone] < 1000 || found[api.ErrTwin] < 500 || rows < 10000 {
		t.Error("the test asks too little:", found, rows)
	}
}

func TestTakenTogether(t *testing.T) { // 25.8
	r := rand.New(rand.NewSource(8))
	many := 0
	for n := 0; n < 600 && !t.Failed(); n++ {
		s, _ := someWorld(t, r)
		for range 10 {
			e := rowsOfAny(r, r.Intn(3))
			at := r.Int63n(700 * sec)
			names := slices.DeleteFunc([]string{"__name__", "a", "b"}, func(string) bool { return r.Intn(2) == 0 })
			for outer, inner := range map[string]string{"sum": "count", "max": "max", "min": "min"} {
				whole, why := query.Ask(s, group(inner, e), at)
				for _, of := range []func(string, api.Expr, ...string) api.Expr{by, without} {
					parts, wrong := query.Ask(s, group(outer, of(inner, e, names...)), at)
					if !sameAnswer(whole, parts) || why != wrong {
						t.Errorf("%s of %s of %s: %v, error %d, want %v, error %d", outer, inner, text(t, e), parts, wrong, whole, why)
					}
				}
				many += len(whole.Rows)
			}
		}
	}
	if many < 3000 {
		t.Error("the test asks too little:", many)
	}
}

func TestIncreaseOfCounters(t *testing.T) { // 25.10
	r := rand.New(rand.NewSource(10))
	for range 5000 {
		var l []api.Dot
		v := float64(r.Intn(1000)) / 8
		for at := range 1 + r.Intn(20) {
			l = append(l, api.Dot{At: int64(at), V: v})
			v += float64(r.Intn(100)*r.Intn(2)) / 8
		}
		if got, want := query.Increase(l), l[len(l)-1].V-l[0].V; got != want {
			t.Fatalf("Increase(%v): %v, want %v", l, got, want)
		}
	}
	for range 5000 {
		var l []api.Dot
		var values []float64
		for at := range r.Intn(8) {
			v := []float64{0, minus, 1, 2.5, 0.1, 1e100, -1e100, inf, -inf, nan}[r.Intn(10)]
			l, values = append(l, api.Dot{At: int64(at), V: v}), append(values, v)
		}
		if got, want := query.Increase(l), canonical(grown(values)); math.Float64bits(got) != math.Float64bits(want) {
			t.Fatalf("Increase(%v): %v, want %v", values, got, want)
		}
	}
}

func TestManySeries(t *testing.T) { // 25.4: as many as a store may have
	s := made(t, 1)
	sum := 0.0
	for i := range api.MaxSeries {
		puts(t, s, of("__name__", "m", "i", strconv.Itoa(10000+i), "odd", strconv.Itoa(i%2)), 1, float64(i), 2, float64(2*i))
		sum += float64(2 * i)
	}
	asks(t, s, "sum(m)", 2*sec, row(sum))
	asks(t, s, "count(m + m)", 2*sec, row(api.MaxSeries))
	asks(t, s, "count by (odd) (rate(m[5s]))", 2*sec, row(api.MaxSeries/2, "odd", "0"), row(api.MaxSeries/2, "odd", "1"))
	asks(t, s, "max(m - m * 2)", 2*sec, row(0))
	asks(t, s, "min(increase(m[5s]))", 2*sec, row(0))
	asks(t, s, "max(increase(m[5s]))", 2*sec, row(api.MaxSeries-1))
}
