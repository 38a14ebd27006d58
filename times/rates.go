package times

import (
	"cmp"
	"math/bits"
	"strconv"

	"abacus/api"
)

// wide is a number of two words, the higher one first: products of what a rate has do not fit into one.
type wide [2]uint64

// product is a times b, both not negative.
func product(a, b int64) wide {
	high, low := bits.Mul64(uint64(a), uint64(b))
	return wide{high, low}
}

func (w wide) compare(v wide) int {
	if c := cmp.Compare(w[0], v[0]); c != 0 {
		return c
	}
	return cmp.Compare(w[1], v[1])
}

// over is w by d, and what is left; or api.MaxAt + 1, if that is more than api.MaxAt. d is above 0.
func (w wide) over(d int64) (int64, uint64) {
	if w[0] >= uint64(d) {
		return api.MaxAt + 1, 0
	}
	quotient, rest := bits.Div64(w[0], w[1], uint64(d))
	if quotient > api.MaxAt {
		return api.MaxAt + 1, 0
	}
	return int64(quotient), rest
}

// CheckRate tells whether a rate may be.
func CheckRate(r api.Rate) api.Errno {
	if r.N < 0 || r.N > api.MaxPer || r.Per < 1 || r.Per > api.MaxAt {
		return api.ErrRate
	}
	return api.OK
}

// Lowest is a rate in lowest terms.
func Lowest(r api.Rate) (api.Rate, api.Errno) {
	if why := CheckRate(r); why != api.OK {
		return api.Rate{}, why
	}
	d := divisor(r.N, r.Per)
	return api.Rate{N: r.N / d, Per: r.Per / d}, api.OK
}

// divisor is the greatest number that divides both.
func divisor(a, b int64) int64 {
	for b != 0 {
		a, b = b, a%b
	}
	return a
}

// Compare is -1, 0 or 1, as a is less than, as great as, greater than b.
func Compare(a, b api.Rate) (int, api.Errno) {
	if CheckRate(a) != api.OK || CheckRate(b) != api.OK {
		return 0, api.ErrRate
	}
	return product(a.N, b.Per).compare(product(b.N, a.Per)), api.OK
}

// PrintRate writes a rate.
func PrintRate(r api.Rate) (string, api.Errno) {
	if why := CheckRate(r); why != api.OK {
		return "", why
	}
	per, why := PrintSpan(r.Per)
	return strconv.FormatInt(r.N, 10) + "/" + per, why
}

// ParseRate reads a rate; beside an error it tells the place of the fault.
func ParseRate(s string) (api.Rate, api.Errno, int) {
	n, slash := number(s, 0, api.MaxPer)
	if n > api.MaxPer {
		return api.Rate{}, api.ErrRange, 0
	}
	if slash == 0 || slash == len(s) || s[slash] != '/' {
		return api.Rate{}, api.ErrTime, slash
	}
	per, why, at := ParseSpan(s[slash+1:])
	if why != api.OK {
		return api.Rate{}, why, slash + 1 + at
	}
	if per == 0 {
		return api.Rate{}, api.ErrTime, len(s)
	}
	return api.Rate{N: n, Per: per}, api.OK, 0
}

// Accrued is how many come in a span.
func Accrued(r api.Rate, d int64) (int64, api.Errno) {
	if why := CheckRate(r); why != api.OK {
		return 0, why
	}
	if !isMoment(d) {
		return 0, api.ErrRange
	}
	n, _ := product(r.N, d).over(r.Per)
	if n > api.MaxAt {
		return 0, api.ErrMany
	}
	return n, api.OK
}

// Cost is the shortest span in which so many come.
func Cost(r api.Rate, n int64) (int64, api.Errno) {
	if why := CheckRate(r); why != api.OK {
		return 0, why
	}
	switch {
	case n < 0 || n > api.MaxAt:
		return 0, api.ErrRange
	case n == 0:
		return 0, api.OK
	case r.N == 0:
		return 0, api.ErrMany
	}
	d, rest := product(n, r.Per).over(r.N)
	if rest > 0 {
		d++
	}
	if d > api.MaxAt {
		return 0, api.ErrMany
	}
	return d, api.OK
}
