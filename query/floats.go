package query

import (
	"math"
	"strings"

	"abacus/api"
	"abacus/exact"
	"abacus/gauges"
)

// aSecond is how many nanoseconds one has.
const aSecond = 1e9

// functions are what takes floats together, one or more, by its word: that of rows, or what stands ahead of overTime.
func functions() map[string]func([]float64) float64 {
	return map[string]func([]float64) float64{
		"sum":   func(l []float64) float64 { return sumOf(l).Value() },
		"avg":   func(l []float64) float64 { return sumOf(l).Mean() },
		"min":   least,
		"max":   greatest,
		"count": func(l []float64) float64 { return float64(len(l)) },
		"last":  func(l []float64) float64 { return l[len(l)-1] },
	}
}

func sumOf(l []float64) *exact.Sum {
	sum := exact.New()
	for _, x := range l {
		sum.Add(x)
	}
	return sum
}

// least is the least number: no number, if there is none.
func least(l []float64) float64 {
	x := math.NaN()
	for _, y := range l {
		if math.IsNaN(x) || !math.IsNaN(y) && gauges.Above(x, y) {
			x = y
		}
	}
	return x
}

// greatest is the greatest number, likewise: what is no number is above nothing.
func greatest(l []float64) float64 {
	x := math.NaN()
	for _, y := range l {
		if gauges.Above(y, x) {
			x = y
		}
	}
	return x
}

// function is what a function's word reckons of the dots in a span, where there are enough of them.
func function(word string, span int64) func([]api.Dot) (float64, bool) {
	switch word {
	case increaseWord:
		return increaseOf
	case rateWord:
		return func(l []api.Dot) (float64, bool) {
			x, is := increaseOf(l)
			return x / (float64(span) / aSecond), is
		}
	}
	take := functions()[strings.TrimSuffix(word, overTime)]
	return func(l []api.Dot) (float64, bool) {
		if len(l) == 0 {
			return 0, false
		}
		return take(valuesOf(l)), true
	}
}

func increaseOf(l []api.Dot) (float64, bool) {
	return Increase(l), len(l) > 1
}

// lastOf is the value of the last dot.
func lastOf(l []api.Dot) (float64, bool) {
	if len(l) == 0 {
		return 0, false
	}
	return l[len(l)-1].V, true
}

func valuesOf(l []api.Dot) []float64 {
	values := make([]float64, len(l))
	for i, d := range l {
		values[i] = d.V
	}
	return values
}

// Increase is what a counter's dots have come to more, resets put in.
func Increase(l []api.Dot) float64 {
	sum := exact.New()
	for i := 1; i < len(l); i++ {
		if now, was := l[i].V, l[i-1].V; now >= was {
			sum.Add(now - was)
		} else { // it began anew
			sum.Add(now)
		}
	}
	return told(sum.Value())
}

// reckoned is what a sign answers of two floats.
func reckoned(op string, x, y float64) float64 {
	switch op {
	case "+":
		x += y
	case "-":
		x -= y
	case "*":
		x *= y
	default:
		x /= y
	}
	return told(x)
}

// chooses tells whether a sign that chooses holds of two floats.
func chooses(op string, x, y float64) bool {
	if op == "<" {
		return x < y
	}
	return x > y
}

// told is a float as it is answered: all that is no number has the same bits.
func told(x float64) float64 {
	return math.Float64frombits(gauges.Bits(x))
}
