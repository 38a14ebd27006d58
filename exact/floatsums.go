package exact

import "math"

// Two is the nearest float to a sum of two, and what is missing.
func Two(a, b float64) (float64, float64) {
	sum := a + b
	if !finite(sum) { // as it is not, where a or b is not
		return told(sum), 0
	}
	if math.Abs(a) < math.Abs(b) {
		a, b = b, a
	}
	missing := b - (sum - a) // both are floats, and none is too great, as a is the greater one
	if missing == 0 {
		return sum, 0 // it may be -0
	}
	return sum, missing
}

// Naive is the sum in floats, from the first one on.
func Naive(l []float64) float64 {
	var sum float64
	for _, x := range l {
		sum += x
	}
	return told(sum)
}

// Kahan is the sum in floats, to which is added at the end what was missing at each step.
func Kahan(l []float64) float64 {
	var sum, missing float64
	for _, x := range l {
		next := sum + x
		if math.Abs(sum) >= math.Abs(x) {
			missing += (sum - next) + x
		} else {
			missing += (x - next) + sum
		}
		sum = next
	}
	if !finite(missing) {
		return told(sum)
	}
	return told(sum + missing)
}

// Pairs is the sum in floats, of the sums of both halves.
func Pairs(l []float64) float64 {
	switch len(l) {
	case 0:
		return 0
	case 1:
		return told(l[0])
	}
	half := len(l) / 2
	return told(Pairs(l[:half]) + Pairs(l[half:]))
}
