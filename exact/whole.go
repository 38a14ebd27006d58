package exact

import (
	"math"
	"math/bits"
	"slices"
)

// whole is a whole number of any size, below 0 too: its words, the lowest one first, as if above the last one there were its highest bit in all places (two's complement). There are no more words than that takes: none, if it is 0.
type whole []uint64

// sign is what stands above the last word: 0, or all bits, if the number is below 0.
func (w whole) sign() uint64 {
	if len(w) > 0 && w[len(w)-1]>>63 == 1 {
		return math.MaxUint64
	}
	return 0
}

// widened has one word more than w and than n words: so a number of n words may be added.
func (w whole) widened(n int) whole {
	sign := w.sign()
	n = max(n, len(w)) + 1
	for len(w) < n {
		w = append(w, sign)
	}
	return w
}

// trimmed is without the last words that say no more than the sign of those below.
func (w whole) trimmed() whole {
	for len(w) > 0 && w[len(w)-1] == w[:len(w)-1].sign() {
		w = w[:len(w)-1]
	}
	return w
}

// plus is both together, in the words of w; they may be one.
func (w whole) plus(o whole) whole {
	sign := o.sign()
	w = w.widened(len(o))
	var carry uint64
	for i := range w {
		x := sign
		if i < len(o) {
			x = o[i]
		}
		w[i], carry = bits.Add64(w[i], x, carry)
	}
	return w.trimmed()
}

// plusFloat is w and a finite float together, in the words of w. It goes no farther up than there is something to carry: most floats touch two words alone.
func (w whole) plusFloat(x float64) whole {
	part, power := apart(x)
	step := bits.Add64
	if x < 0 {
		step = bits.Sub64
	}
	at, shift := power/64, power%64
	w = w.widened(at + 2)
	var carry uint64
	w[at], carry = step(w[at], part<<shift, 0)
	w[at+1], carry = step(w[at+1], part>>(64-shift), carry)
	for i := at + 2; carry > 0 && i < len(w); i++ {
		w[i], carry = step(w[i], 0, carry)
	}
	return w.trimmed()
}

// negate turns the number's sign about, in its words; where these are too few, what they have without a sign is right.
func (w whole) negate() {
	carry := uint64(1)
	for i := range w {
		w[i], carry = bits.Add64(^w[i], 0, carry)
	}
}

// amount is the number without its sign, in new words.
func (w whole) amount() []uint64 {
	m := slices.Clone(w)
	if w.sign() != 0 {
		m.negate()
	}
	return m
}

// nearest is the float that is nearest to so many least floats divided by a number, which is not 0.
func (w whole) nearest(by uint64) float64 {
	m := slices.Insert(w.amount(), 0, 0) // a word more, that stands behind the point
	var rest uint64
	for i := len(m) - 1; i >= 0; i-- {
		m[i], rest = bits.Div64(rest, m[i], by)
	}
	if rest > 0 {
		m[0] |= 1 // what is left is less than this bit counts, but more than nothing
	}
	x := rounded(m)
	if x > 0 && w.sign() != 0 {
		return -x
	}
	return x
}
