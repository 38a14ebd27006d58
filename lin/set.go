package lin

import (
	"iter"
	"math/bits"
)

// set is calls, by their numbers: it has a bit for each that a history may have.
type set uint64

// only is the set of one call.
func only(i int) set {
	return 1 << i
}

func (s set) has(i int) bool {
	return s&only(i) != 0
}

func (s set) size() int {
	return bits.OnesCount64(uint64(s))
}

// least is the least number of a set that is not empty.
func (s set) least() int {
	return bits.TrailingZeros64(uint64(s))
}

// numbers yields the numbers, rising.
func (s set) numbers() iter.Seq[int] {
	return func(yield func(int) bool) {
		for ; s != 0; s &= s - 1 {
			if !yield(s.least()) {
				return
			}
		}
	}
}
