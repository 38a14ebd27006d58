package query_test

import (
	"math"
	"reflect"
	"slices"
	"strconv"
	"strings"
	"testing"
	"unsafe"

	"abacus/api"
	"abacus/query"
	"abacus/store"
)

func TestTypes(t *testing.T) { // 25.3, example 2
	number, rows, span := num(1), named("a"), over(named("a"), sec)
	wrong := call("rate", rows)
	types := func(e api.Expr, want api.ExprType) {
		t.Helper()
		why := api.OK
		if want == api.TypeNone {
			why = api.ErrType
		}
		if got, e2 := query.Type(e); got != want || e2 != why {
			t.Errorf("Type(%v): %d, error %d, want %d", e, got, e2, want)
		}
		s, _ := store.New(1)
		if want == api.TypeNone || want == api.TypeSpan {
			for _, at := range []int64{5, -1, api.MaxAt} { // ahead of ErrRange
				if a, why := query.Ask(s, e, at); !reflect.DeepEqual(a, api.Answer{}) || why != api.ErrType {
					t.Errorf("Ask(%v): %v, error %d", e, a, why)
				}
			}
		} else if a, why := query.Ask(s, e, 5); a.Type != want || why != api.OK {
			t.Errorf("Ask(%v): %v, error %d", e, a, why)
		}
	}
	types(number, api.TypeNumber)
	types(rows, api.TypeRows)
	types(sooner(rows, sec), api.TypeRows)
	types(pick(), api.TypeRows)
	types(span, api.TypeSpan)
	types(sooner(span, sec), api.TypeSpan)
	for _, word := range functionWords {
		types(call(word, number), api.TypeNone)
		types(call(word, rows), api.TypeNone)
		types(call(word, span), api.TypeRows)
		types(call(word, call(word, span)), api.TypeNone)
		types(call(word, group("sum", rows)), api.TypeNone)
		types(call(word, both("+", span, number)), api.TypeNone)
	}
	for _, word := range takingWords {
		for _, of := range []func(api.Expr) api.Expr{
			func(e api.Expr) api.Expr { return group(word, e) },
			func(e api.Expr) api.Expr { return by(word, e, "x") },
			func(e api.Expr) api.Expr { return without(word, e) },
		} {
			types(of(number), api.TypeNone)
			types(of(rows), api.TypeRows)
			types(of(span), api.TypeNone)
			types(of(wrong), api.TypeNone)
			types(of(call("rate", span)), api.TypeRows)
			types(of(of(rows)), api.TypeRows)
			types(of(both("+", rows, number)), api.TypeRows)
			types(of(both("+", number, number)), api.TypeNone)
			types(of(both("<", rows, number)), api.TypeRows)
		}
	}
	kids := []api.Expr{number, rows, span, wrong}
	for _, sign := range allSigns {
		for i, a := range kids {
			for j, b := range kids {
				want := api.TypeNone
				switch {
				case i > 1 || j > 1:
				case sign == "<" || sign == ">":
					if i == 1 && j == 0 {
						want = api.TypeRows
					}
				case i == 0 && j == 0:
					want = api.TypeNumber
				default:
					want = api.TypeRows
				}
				types(both(sign, a, b), want)
			}
		}
	}
	types(both("<", rows, both("+", number, number)), api.TypeRows)
	types(both("<", both("<", rows, number), number), api.TypeRows)
	types(both("+", wrong, number), api.TypeNone)
}

func TestExamplesOfAnswers(t *testing.T) { // example 3
	s := made(t, 1)
	puts(t, s, of("__name__", "a", "x", "1"), 10, 1, 20, 3, 30, 2)
	asks(t, s, "a", 30*sec, row(2, "__name__", "a", "x", "1"))
	asks(t, s, "a", 29*sec, row(3, "__name__", "a", "x", "1"))
	asks(t, s, "increase(a[30s])", 30*sec, row(4, "x", "1"))
	asks(t, s, "rate(a[20s])", 30*sec, row(0.1, "x", "1"))
	asks(t, s, "count_over_time(a[1h])", 30*sec, row(3, "x", "1"))
	asks(t, s, "sum(a)", 30*sec, row(2))
	asks(t, s, "a > 5", 30*sec)
}

func TestNumbersAnswered(t *testing.T) { // 25.4: numbers
	counts(t, "1", 1)
	counts(t, "1 + 2", 3)
	counts(t, "1 - 2", -1)
	counts(t, "3 * 2", 6)
	counts(t, "3 / 2", 1.5)
	counts(t, "0.1 + 0.2", 0.30000000000000004)
	counts(t, "1 / 3", 1.0/3)
	counts(t, "1 - 2 - 3", -4)
	counts(t, "1 - (2 - 3)", 2)
	counts(t, "2 + 3 * 4", 14)
	counts(t, "1 / 0", inf)
	counts(t, "(0 - 1) / 0", -inf)
	counts(t, "0 * (0 - 1)", minus)
	counts(t, "0 - 0", 0)
	counts(t, "1e308 * 10", inf)
	counts(t, "1e308 + 1e308", inf)
	counts(t, "5e-324 / 2", 0)
	counts(t, "1e16 + 1 - 1e16", 0) // each rounded by itself
	for _, q := range []string{"0 / 0", "1 / 0 - 1 / 0", "0 * (1 / 0)", "0 / 0 + 1", "1 / 0 / (1 / 0)"} {
		counts(t, q, math.Float64frombits(0x7ff8000000000001))
	}
}

func TestOrderOfErrors(t *testing.T) { // 25.4
	s := made(t, 1)
	for _, at := range []int64{-1, 0, api.MaxAt} {
		for _, e := range []api.Expr{{}, num(-1), num(1), named("a"), over(named("a"), 1), call("rate", num(1))} {
			if a, why := query.Ask(nil, e, at); !reflect.DeepEqual(a, api.Answer{}) || why != api.ErrNil {
				t.Errorf("Ask(nil, %v, %d): %v, error %d", e, at, a, why)
			}
		}
		fails(t, s, "rate(a)", at, api.ErrType)
		fails(t, s, "a[5m]", at, api.ErrType)
		fails(t, s, "1 < 2", at, api.ErrType)
	}
	for _, at := range []int64{-1, math.MinInt64, api.MaxAt, api.MaxAt + 1, math.MaxInt64} {
		for _, q := range []string{"1", "a", "rate(a[5m])", "sum(a)", "a + 1"} {
			fails(t, s, q, at, api.ErrRange)
		}
	}
	for _, at := range []int64{0, 1, api.MaxAt - 1} {
		asks(t, s, "a", at)
		asks(t, s, "sum(rate(a[640511h]))", at)
	}
}

func TestSelectAtAMoment(t *testing.T) { // 25.4: a select
	s := made(t, 1)
	a, b := of("__name__", "a"), of("__name__", "b", "x", "1")
	const back = api.LookBack
	put := func(set []api.Label, at int64, v float64) {
		t.Helper()
		if why := s.Append(set, api.Dot{At: at, V: v}); why != api.OK {
			t.Fatal("Append:", why)
		}
	}
	put(a, 0, 1)
	put(a, back+5, 2)
	put(a, back+6, 3)
	put(b, 7, minus)
	first, second, third, other := row(1, "__name__", "a"), row(2, "__name__", "a"), row(3, "__name__", "a"), row(minus, "__name__", "b", "x", "1")
	asks(t, s, "a", 0, first)
	asks(t, s, "a", 1, first)
	asks(t, s, "a", back-1, first)
	asks(t, s, "a", back)
	asks(t, s, "a", back+4)
	asks(t, s, "a", back+5, second)
	asks(t, s, "a", back+6, third)
	asks(t, s, "a", 2*back+5, third)
	asks(t, s, "a", 2*back+6)
	asks(t, s, "{}", 6, first)
	asks(t, s, "{}", 7, first, other)
	asks(t, s, `{x="1"}`, 7, other)
	asks(t, s, `{x=""}`, 7, first)
	asks(t, s, `b{x!="1"}`, 7)
	asks(t, s, `{__name__=~"?"}`, 7, first, other)
	asks(t, s, "b", 6)
	asks(t, s, "c", 7)
	asks(t, s, "a offset 1ns", 0) // below 0
	asks(t, s, "a offset 1ns", 1, first)
	asks(t, s, "a offset 300s", back-1)
	asks(t, s, "a offset 300s", back, first)
	asks(t, s, "a offset 300s", 2*back-1, first)
	asks(t, s, "a offset 300s", 2*back)
	asks(t, s, "a offset 300s", 2*back+5, second)
	asks(t, s, "{} offset 640511h", 7)
	asks(t, s, "a offset 2305843009213693952ns", api.MaxAt-1)
	put(b, api.MaxAt-1, 5)
	put(b, api.MaxAt, 6)
	asks(t, s, "b", api.MaxAt-2)
	asks(t, s, "b", api.MaxAt-1, row(5, "__name__", "b", "x", "1"))
	asks(t, s, "a offset 2305843009213693951ns", api.MaxAt-1, first)
}

// seconds are those of a span as a float, each step rounded.
func seconds(span int64) float64 {
	x := float64(span)
	return x / 1e9
}

func TestCallsOverSpans(t *testing.T) { // 25.4: a call
	s := made(t, 1)
	set := of("__name__", "a", "x", "1")
	l := []float64{10, 1, 20, 3, 30, 2, 40, 2, 50, 5}
	puts(t, s, set, l...)
	for _, x := range []struct {
		word string
		at   int64
		span string
		want float64
	}{
		{"sum_over_time", 50, "50s", 13}, {"avg_over_time", 50, "50s", 2.6}, {"min_over_time", 50, "50s", 1}, {"max_over_time", 50, "50s", 5}, {"count_over_time", 50, "50s", 5}, {"last_over_time", 50, "50s", 5},
		{"increase", 50, "50s", 7}, {"rate", 50, "50s", 0.14},
		{"sum_over_time", 40, "30s", 7}, {"avg_over_time", 40, "30s", 7.0 / 3}, {"min_over_time", 40, "30s", 2}, {"max_over_time", 40, "30s", 3}, {"count_over_time", 40, "30s", 3}, {"last_over_time", 40, "30s", 2},
		{"increase", 40, "30s", 2}, {"rate", 40, "30s", 2.0 / 30},
		{"count_over_time", 40, "30001ms", 4}, {"count_over_time", 40, "30s1ns", 4}, {"count_over_time", 40, "1ns", 1}, {"count_over_time", 40, "640511h", 4},
		{"sum_over_time", 10, "1ns", 1}, {"last_over_time", 15, "10s", 1}, {"increase", 20, "11s", 2}, {"rate", 20, "11s", 2.0 / 11}, {"rate", 20, "10s1ns", 2 / seconds(10000000001)},
		{"rate", 20, "2305843009213693952ns", 2 / seconds(api.MaxAt)}, {"rate", 20, "10000000003ns", 2 / seconds(10000000003)},
	} {
		q := x.word + "(a[" + x.span + "])"
		asks(t, s, q, x.at*sec, row(x.want, "x", "1"))
		asks(t, s, strings.Replace(q, "]", "] offset 7s", 1), (x.at+7)*sec, row(x.want, "x", "1"))
	}
	for _, word := range functionWords {
		asks(t, s, word+"(a[9999999999ns])", 20*sec-1) // from 10 s on, without
		asks(t, s, word+"(a[5s])", 9*sec)
		asks(t, s, word+"(b[50s])", 50*sec)
		asks(t, s, word+"(a[50s] offset 50s)", 49*sec)
		asks(t, s, word+"(a[50s] offset 640511h)", 49*sec)
	}
	for _, word := range []string{"rate", "increase"} { // of one dot nothing
		asks(t, s, word+"(a[10s])", 20*sec)
		asks(t, s, word+"(a[10s])", 15*sec)
	}
}

func TestFloatsOverSpans(t *testing.T) { // 25.4: exact sums, infinities, -0
	s := made(t, 1)
	puts(t, s, of("__name__", "great"), 1, 1e100, 2, 1, 3, -1e100)
	puts(t, s, of("__name__", "tenths"), 1, 0.1, 2, 0.1, 3, 0.1, 4, 0.1, 5, 0.1, 6, 0.1, 7, 0.1, 8, 0.1, 9, 0.1, 10, 0.1)
	puts(t, s, of("__name__", "ends"), 1, inf, 2, -inf, 3, 5)
	puts(t, s, of("__name__", "noughts"), 1, 0, 2, minus)
	puts(t, s, of("__name__", "minus"), 1, minus, 2, minus)
	puts(t, s, of("__name__", "most"), 1, math.MaxFloat64, 2, math.MaxFloat64)
	puts(t, s, of("__name__", "up"), 1, 1, 2, inf, 3, inf, 4, 7)
	none := math.Float64frombits(0x7ff8000000000001)
	for _, x := range []struct {
		word, name string
		want       float64
	}{
		{"sum_over_time", "great", 1}, {"avg_over_time", "great", 1.0 / 3}, {"min_over_time", "great", -1e100}, {"max_over_time", "great", 1e100},
		{"sum_over_time", "tenths", 1}, {"avg_over_time", "tenths", 0.1},
		{"sum_over_time", "ends", none}, {"avg_over_time", "ends", none}, {"min_over_time", "ends", -inf}, {"max_over_time", "ends", inf}, {"last_over_time", "ends", 5}, {"increase", "ends", none},
		{"min_over_time", "noughts", minus}, {"max_over_time", "noughts", 0}, {"sum_over_time", "noughts", 0}, {"last_over_time", "noughts", minus}, {"increase", "noughts", minus},
		{"sum_over_time", "minus", minus}, {"avg_over_time", "minus", minus}, {"max_over_time", "minus", minus}, {"increase", "minus", 0},
		{"sum_over_time", "most", inf}, {"avg_over_time", "most", math.MaxFloat64}, {"increase", "most", 0},
		{"increase", "up", none}, {"rate", "up", none},
		{"increase", "great", 1 - 1e100}, // it began anew twice
	} {
		asks(t, s, x.word+"("+x.name+"[1h])", 10*sec, row(x.want))
	}
}

func TestTwins(t *testing.T) { // 25.4: ErrTwin
	s := made(t, 1)
	puts(t, s, of("__name__", "a", "x", "1"), 1, 1, 2, 2, 10, 3)
	puts(t, s, of("__name__", "b", "x", "1"), 8, 4, 9, 5)
	puts(t, s, of("__name__", "b", "x", "2"), 9, 6)
	puts(t, s, of("__name__", "c"), 9, 7)
	puts(t, s, of("y", "1"), 9, 8)
	const at = 10 * sec
	for _, word := range functionWords {
		fails(t, s, word+"({x=\"1\"}[1h])", at, api.ErrTwin)
		asks(t, s, "count("+word+"(b[1h])) * 0", at, row(0))
	}
	fails(t, s, "sum_over_time({}[1h])", at, api.ErrTwin)
	asks(t, s, "last_over_time({}[2s])", 3*sec-1, row(2, "x", "1")) // the twin has no dot there
	asks(t, s, "increase({x=\"1\"}[3s])", at, row(1, "x", "1"))     // a has one dot there
	fails(t, s, "count_over_time({x=\"1\"}[3s])", at, api.ErrTwin)
	for _, sign := range []string{"+", "-", "*", "/"} {
		fails(t, s, `{x="1"} `+sign+" 1", at, api.ErrTwin)
		fails(t, s, "1 "+sign+` {x="1"}`, at, api.ErrTwin)
		fails(t, s, `{x="1"} `+sign+" a", at, api.ErrTwin)
		fails(t, s, "a "+sign+` {x="1"}`, at, api.ErrTwin)
		fails(t, s, "c "+sign+` {x="1"}`, at, api.ErrTwin) // though none of them is asked for
		fails(t, s, `{x="1"} `+sign+" nothing", at, api.ErrTwin)
		fails(t, s, "nothing "+sign+` {x="1"}`, at, api.ErrTwin)
	}
	one, two := row(3, "__name__", "a", "x", "1"), row(5, "__name__", "b", "x", "1")
	asks(t, s, `{x="1"}`, at, one, two) // by their names they are two
	asks(t, s, `{x="1"} > 0`, at, one, two)
	asks(t, s, `{x="1"} < 4`, at, one)
	asks(t, s, `sum by (x) ({x="1"})`, at, row(8, "x", "1"))
	asks(t, s, `({x="1"} < 4) + 1`, at, row(4, "x", "1"))
	asks(t, s, `c + {y="1"}`, at) // not the same labels
	asks(t, s, `{x="2"} + {y="1"}`, at)
}

func TestErrorsOfParts(t *testing.T) { // 25.4: store.Dots' error, and a binary's first kid is asked first
	s := made(t, 10)
	puts(t, s, of("__name__", "a", "x", "1"), 400, 1, 410, 2)
	puts(t, s, of("__name__", "b", "x", "1"), 400, 3, 410, 4)
	if why := s.Trim(405 * sec); why != api.OK || s.Floor() != 405*sec {
		t.Fatal("Trim:", why, s.Floor())
	}
	const floor = 405 * sec
	asks(t, s, "last_over_time(a[1ns])", floor)
	asks(t, s, "last_over_time(a[1s])", floor+sec)
	fails(t, s, "last_over_time(a[1s])", floor, api.ErrGone)
	fails(t, s, "last_over_time(a[1s])", floor+sec-2, api.ErrGone)
	asks(t, s, "last_over_time(a[1s])", floor+sec-1)
	fails(t, s, "a", 410*sec, api.ErrGone) // though its last dot is there
	fails(t, s, "a", floor+api.LookBack-2, api.ErrGone)
	asks(t, s, "b", floor+api.LookBack-1, row(4, "__name__", "b", "x", "1"))
	fails(t, s, "a offset 1ns", floor+api.LookBack-1, api.ErrGone)
	asks(t, s, "a offset 1ns", floor+api.LookBack, row(2, "__name__", "a", "x", "1"))
	asks(t, s, "a offset 1h", 410*sec) // below 0
	fails(t, s, "a offset 410s", 410*sec, api.ErrGone)
	asks(t, s, "nothing", 410*sec) // no dots are asked for
	for _, q := range []string{"sum(a)", "a + 1", "1 + a", "a > 1", "a + b", "a + nothing", "nothing + a", "sum(a) + 1", "count(rate(a[1h]))", `a + {x="1"}`, `{x="1"} + a`, `a + last_over_time({x="1"}[1s])`} {
		fails(t, s, q, 410*sec, api.ErrGone)
	}
	const at, twin = 411 * sec, `last_over_time({x="1"}[2s])`
	fails(t, s, twin, at, api.ErrTwin)
	fails(t, s, twin+" + a", at, api.ErrTwin)                              // the first kid's
	fails(t, s, "a + "+twin, at, api.ErrGone)                              // likewise
	fails(t, s, `{x="1"} + a offset 10s`, floor+api.LookBack, api.ErrGone) // a kid's, ahead of what both come to
	fails(t, s, `a offset 10s + {x="1"}`, floor+api.LookBack, api.ErrGone) // likewise
	fails(t, s, `{x="1"} + b`, floor+api.LookBack, api.ErrTwin)            // of both
	fails(t, s, `(1 + {x="1"}) + a offset 10s`, floor+api.LookBack, api.ErrTwin)
}

func TestGroupsOfRows(t *testing.T) { // 25.4: a group
	s := made(t, 1)
	puts(t, s, of("__name__", "a", "x", "1", "y", "1"), 1, 1)
	puts(t, s, of("__name__", "a", "x", "1", "y", "2"), 1, 2)
	puts(t, s, of("__name__", "a", "x", "2", "y", "1"), 1, 4)
	puts(t, s, of("__name__", "b", "y", "1"), 1, 8)
	puts(t, s, of("x", "2"), 1, 16)
	const at = sec
	for _, x := range []struct {
		q    string
		rows []api.Rowed
	}{
		{"sum({})", []api.Rowed{row(31)}},
		{"avg({})", []api.Rowed{row(6.2)}},
		{"min({})", []api.Rowed{row(1)}},
		{"max({})", []api.Rowed{row(16)}},
		{"count({})", []api.Rowed{row(5)}},
		{"sum by () ({})", []api.Rowed{row(31)}},
		{"sum without () ({})", []api.Rowed{row(1, "x", "1", "y", "1"), row(2, "x", "1", "y", "2"), row(16, "x", "2"), row(4, "x", "2", "y", "1"), row(8, "y", "1")}},
		{"sum by (x) ({})", []api.Rowed{row(8), row(3, "x", "1"), row(20, "x", "2")}},
		{"count by (x) ({})", []api.Rowed{row(1), row(2, "x", "1"), row(2, "x", "2")}},
		{"max by (x) ({})", []api.Rowed{row(8), row(2, "x", "1"), row(16, "x", "2")}},
		{"min by (x) ({})", []api.Rowed{row(8), row(1, "x", "1"), row(4, "x", "2")}},
		{"avg by (x) ({})", []api.Rowed{row(8), row(1.5, "x", "1"), row(10, "x", "2")}},
		{"sum by (__name__) ({})", []api.Rowed{row(16), row(7, "__name__", "a"), row(8, "__name__", "b")}},
		{"sum by (__name__,y) ({})", []api.Rowed{row(16), row(5, "__name__", "a", "y", "1"), row(2, "__name__", "a", "y", "2"), row(8, "__name__", "b", "y", "1")}},
		{"sum without (y) ({})", []api.Rowed{row(8), row(3, "x", "1"), row(20, "x", "2")}},
		{"sum without (x,y) ({})", []api.Rowed{row(31)}},
		{"sum without (__name__,x) ({})", []api.Rowed{row(16), row(13, "y", "1"), row(2, "y", "2")}},
		{"sum by (nothing) ({})", []api.Rowed{row(31)}},
		{"sum(nothing)", nil},
		{"count(nothing)", nil},
		{"count by (x) (nothing)", nil},
		{"count(count by (x) ({}))", []api.Rowed{row(3)}},
		{"sum(a > 1)", []api.Rowed{row(6)}},
		{"sum(a) / count(a)", []api.Rowed{row(7.0 / 3)}},
	} {
		asks(t, s, x.q, at, x.rows...)
	}
}

func TestGroupsOfFloats(t *testing.T) { // 25.4: what is no number, infinities, -0, exact sums
	none := math.Float64frombits(0x7ff8000000000001)
	for _, x := range []struct {
		l                         []float64
		divide                    string // by which some become no number
		sum, avg, least, greatest float64
	}{
		{[]float64{1e100, 1, -1e100}, "1", 1, 1.0 / 3, -1e100, 1e100},
		{[]float64{0, minus}, "1", 0, 0, minus, 0},
		{[]float64{minus, 0}, "1", 0, 0, minus, 0},
		{[]float64{minus, minus}, "1", minus, minus, minus, minus},
		{[]float64{inf, -inf, 1}, "1", none, none, -inf, inf},
		{[]float64{math.MaxFloat64, math.MaxFloat64}, "1", inf, math.MaxFloat64, math.MaxFloat64, math.MaxFloat64},
		{[]float64{0, 1}, "0", none, none, inf, inf},
		{[]float64{1, 0, -1}, "0", none, none, -inf, inf},
		{[]float64{0}, "0", none, none, none, none},
		{[]float64{0, 0, minus}, "0", none, none, none, none},
	} {
		s := made(t, 1)
		for i, v := range x.l {
			puts(t, s, of("__name__", "a", "i", strconv.Itoa(i)), 1, v)
		}
		asks(t, s, "sum(a / "+x.divide+")", sec, row(x.sum))
		asks(t, s, "avg(a / "+x.divide+")", sec, row(x.avg))
		asks(t, s, "min(a / "+x.divide+")", sec, row(x.least))
		asks(t, s, "max(a / "+x.divide+")", sec, row(x.greatest))
		asks(t, s, "count(a / "+x.divide+")", sec, row(float64(len(x.l))))
	}
}

func TestBinariesOfRows(t *testing.T) { // 25.4: a binary
	s := made(t, 1)
	puts(t, s, of("__name__", "b", "x", "1"), 1, 6)
	puts(t, s, of("__name__", "b", "x", "2"), 1, 8)
	puts(t, s, of("A", "z", "__name__", "b"), 1, 10)
	puts(t, s, of("__name__", "c", "x", "2"), 1, 2)
	puts(t, s, of("__name__", "c", "x", "3"), 1, 3)
	puts(t, s, of("__name__", "d"), 1, 4)
	puts(t, s, of("__name__", "e", "a", "1"), 1, 5)
	puts(t, s, of("x", "1"), 1, 7)
	const at = sec
	for _, x := range []struct {
		q    string
		rows []api.Rowed
	}{
		{"b + 1", []api.Rowed{row(11, "A", "z"), row(7, "x", "1"), row(9, "x", "2")}},
		{"b - 1", []api.Rowed{row(9, "A", "z"), row(5, "x", "1"), row(7, "x", "2")}},
		{"1 - b", []api.Rowed{row(-9, "A", "z"), row(-5, "x", "1"), row(-7, "x", "2")}},
		{"b * 2", []api.Rowed{row(20, "A", "z"), row(12, "x", "1"), row(16, "x", "2")}},
		{"b / 2", []api.Rowed{row(5, "A", "z"), row(3, "x", "1"), row(4, "x", "2")}},
		{"2 / c", []api.Rowed{row(1, "x", "2"), row(2.0/3, "x", "3")}},
		{"b + c", []api.Rowed{row(10, "x", "2")}},
		{"c + b", []api.Rowed{row(10, "x", "2")}},
		{"b - c", []api.Rowed{row(6, "x", "2")}},
		{"c - b", []api.Rowed{row(-6, "x", "2")}},
		{"c / b", []api.Rowed{row(0.25, "x", "2")}},
		{"b * b", []api.Rowed{row(100, "A", "z"), row(36, "x", "1"), row(64, "x", "2")}},
		{`b / {__name__="",x="1"}`, []api.Rowed{row(6.0/7, "x", "1")}},
		{"d + sum(b)", []api.Rowed{row(28)}},
		{"sum(b) / d", []api.Rowed{row(6)}},
		{"d + b", nil},
		{"nothing + b", nil},
		{"b + nothing", nil},
		{"nothing + 1", nil},
		{"1 + nothing", nil},
		{"b > 6", []api.Rowed{row(10, "A", "z", "__name__", "b"), row(8, "__name__", "b", "x", "2")}},
		{"b < 8", []api.Rowed{row(6, "__name__", "b", "x", "1")}},
		{"b < 6", nil},
		{"b > 10", nil},
		{"b > 6 < 10", []api.Rowed{row(8, "__name__", "b", "x", "2")}},
		{"b > 2 * 3", []api.Rowed{row(10, "A", "z", "__name__", "b"), row(8, "__name__", "b", "x", "2")}},
		{"b + 1 > 7", []api.Rowed{row(11, "A", "z"), row(9, "x", "2")}},
		{"b > 0 / 0", nil},
		{"b < 0 / 0", nil},
		{"b < 1 / 0", []api.Rowed{row(10, "A", "z", "__name__", "b"), row(6, "__name__", "b", "x", "1"), row(8, "__name__", "b", "x", "2")}},
		{"d * 0 / 0 > 0", nil},
		{"d * 0 / 0 < 0", nil},
		{"d * 0 / 0", []api.Rowed{row(math.Float64frombits(0x7ff8000000000001))}},
		{"0 / (d - d)", []api.Rowed{row(math.Float64frombits(0x7ff8000000000001))}},
		{"0 * (0 - d)", []api.Rowed{row(minus)}},
		{"0 * (0 - d) < 0", nil},
		{"0 * (0 - d) > 0", nil},
		{"d + (e + 1)", nil},
		{"sum by (a) (e) + e", []api.Rowed{row(10, "a", "1")}},
	} {
		asks(t, s, x.q, at, x.rows...)
	}
	two := made(t, 1) // without its name a row may stand elsewhere
	puts(t, two, of("__name__", "a", "x", "1"), 1, 4)
	puts(t, two, of("__name__", "b", "a", "1"), 1, 5)
	asks(t, two, "{}", at, row(4, "__name__", "a", "x", "1"), row(5, "__name__", "b", "a", "1"))
	for _, q := range []string{"{} + 0", "0 + {}", "last_over_time({}[1s])", "sum without () ({})", "{} + {} - {}", "({} + 0) + {} * 0", "{} * 1 > 0"} {
		asks(t, two, q, at, row(5, "a", "1"), row(4, "x", "1"))
	}
}

func TestAnswersAreNewMemory(t *testing.T) { // 25.6, 25.9
	s := made(t, 1)
	puts(t, s, of("__name__", "a", "x", "1"), 1, 1, 2, 2)
	puts(t, s, of("__name__", "a", "x", "2"), 1, 3, 2, 4)
	for _, q := range []string{"a", "a > 1", "a + 1", "1 + a", "a + a", "rate(a[5s])", "sum(a)", "sum by (x) (a)", "sum without () (a)", "(a > 0) > 0", "sum by (x) (a) + a"} {
		e := parsed(t, q)
		first, why := query.Ask(s, e, 2*sec)
		second, again := query.Ask(s, e, 2*sec)
		third, _ := query.Ask(s, e, 2*sec)
		if why != api.OK || again != api.OK || !sameAnswer(first, second) || len(first.Rows) == 0 {
			t.Fatalf("%s: %v, error %d, again %v, error %d", q, first, why, second, again)
		}
		memory := map[*byte]bool{}
		for _, a := range []api.Answer{first, second} {
			for _, row := range a.Rows {
				for _, x := range row.Labels {
					for _, p := range []*byte{unsafe.StringData(x.Name), unsafe.StringData(x.Value)} {
						if memory[p] {
							t.Errorf("%s: texts share their memory", q)
						}
						memory[p] = true
					}
				}
			}
		}
		for i := range first.Rows { // spare room, too
			l := first.Rows[i].Labels
			for k := range l[:cap(l)] {
				l[:cap(l)][k] = api.Label{Name: "changed"}
			}
			for k, other := range first.Rows {
				if k > i && slices.Contains(other.Labels, api.Label{Name: "changed"}) {
					t.Errorf("%s: two rows share their labels", q)
				}
			}
		}
		clear(first.Rows[:cap(first.Rows)])
		if !sameAnswer(second, third) {
			t.Errorf("%s: the second answer is changed: %v", q, second)
		}
		if fourth, _ := query.Ask(s, e, 2*sec); !sameAnswer(fourth, third) || !isSame(e, parsed(t, q)) {
			t.Errorf("%s: asked again: %v", q, fourth)
		}
	}
	if sets, _ := s.Series(nil); len(sets) != 2 || s.Floor() != 0 {
		t.Error("the store is changed:", sets)
	}
}

func increases(t *testing.T, want float64, l ...float64) {
	t.Helper()
	var dots []api.Dot
	for i, v := range l {
		dots = append(dots, api.Dot{At: int64(i), V: v})
	}
	kept := slices.Clone(dots)
	if got := query.Increase(dots); math.Float64bits(got) != math.Float64bits(want) {
		t.Errorf("Increase(%v): %v, want %v", l, got, want)
	}
	if !reflect.DeepEqual(floatsOfDots(dots), floatsOfDots(kept)) {
		t.Errorf("what was handed in is changed: %v", dots)
	}
}

func floatsOfDots(l []api.Dot) []uint64 {
	var all []uint64
	for _, d := range l {
		all = append(all, uint64(d.At), math.Float64bits(d.V))
	}
	return all
}

func TestIncrease(t *testing.T) { // 25.5, 25.10, example 4
	none := math.Float64frombits(0x7ff8000000000001)
	other := math.Float64frombits(0xfff8000000000123)
	increases(t, 4, 1, 3, 2)
	increases(t, 0)
	increases(t, 0, 5)
	increases(t, 0, none)
	increases(t, 0, -5)
	increases(t, 0, 5, 5)
	increases(t, 9, 1, 10)
	increases(t, 9, 1, 2, 3, 10)
	increases(t, 2, 10, 2)
	increases(t, 6, 10, 2, 6)
	increases(t, 6, 10, 2, 1, 4)
	increases(t, 0, 10, 0)
	increases(t, -3, 10, -3)
	increases(t, 5, -3, 2)
	increases(t, -0.25, 3, -1, -0.5, -0.25, -0.25, 0, -0.25) // -1, 0.5, 0.25, 0, 0.25, -0.25
	increases(t, minus, 0, minus)
	increases(t, 0, minus, 0)
	increases(t, 0, minus, minus)
	increases(t, 0, 0, 0)
	increases(t, 0, 0, minus, 0, minus)
	increases(t, 1, 1e100, 1)
	increases(t, 1, 0, 1e100, 1, -1e100) // 1e100, 1, -1e100
	increases(t, math.MaxFloat64, 0, math.MaxFloat64)
	increases(t, inf, -math.MaxFloat64, math.MaxFloat64)
	increases(t, inf, 0, math.MaxFloat64, 0, math.MaxFloat64)
	increases(t, 0.1, 0.1+0.2, 0.1)
	increases(t, 0.30000000000000004-0.1, 0.1, 0.30000000000000004)
	increases(t, inf, 1, inf)
	increases(t, none, inf, inf)
	increases(t, -inf, 1, -inf)
	increases(t, none, -inf, -inf)
	increases(t, inf, -inf, 1)
	increases(t, 1, inf, 1)
	increases(t, none, 1, none)
	increases(t, none, 1, other)
	increases(t, 5, none, 5)
	increases(t, 5, other, 5)
	increases(t, none, none, none)
	if x := query.Increase([]api.Dot{}); x != 0 {
		t.Error("Increase of none:", x)
	}
	if x := query.Increase([]api.Dot{{At: 9, V: 1}, {At: 3, V: 2}, {At: -1, V: 4}}); x != 3 { // of moments nothing is asked
		t.Error("Increase of any moments:", x)
	}
}
