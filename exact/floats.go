package exact

import (
	"math"
	"math/bits"
)

// behind is how many bits of a float stand behind the point.
const behind = 52

// apart takes a finite float's amount apart: it is a part, times a power of two, of the least float.
func apart(x float64) (uint64, int) {
	word := math.Float64bits(math.Abs(x))
	part, power := word&(1<<behind-1), int(word>>behind)
	if power == 0 {
		return part, 0 // one of the least, without a 1 ahead of the point
	}
	return part | 1<<behind, power - 1
}

// rounded is the float that is nearest to so many least floats; the first word stands behind the point.
func rounded(m []uint64) float64 {
	const greatest = 2045 // the power of the greatest floats
	gone := max(64, length(m)-behind-1)
	part := from(m, gone-1) // what stays, and the highest bit of what goes
	half := part&1 == 1
	part >>= 1
	if half && (part&1 == 1 || anyBelow(m, gone-1)) {
		part++
	}
	power := gone - 64
	if power > greatest {
		return math.Inf(1)
	}
	// The 1 ahead of the point counts into the power: of the least floats, which have none, it is lower by one, and where rounding carries, higher; behind the greatest float this is the infinity.
	return math.Float64frombits(uint64(power)<<behind + part)
}

// length is how many bits a number has.
func length(m []uint64) int {
	for i := len(m) - 1; i >= 0; i-- {
		if m[i] != 0 {
			return 64*i + bits.Len64(m[i])
		}
	}
	return 0
}

// from is the word that begins with a bit, of those that m has.
func from(m []uint64, bit int) uint64 {
	i, shift := bit/64, bit%64
	x := m[i] >> shift
	if i+1 < len(m) {
		x |= m[i+1] << (64 - shift)
	}
	return x
}

// anyBelow tells whether a bit below this one is 1.
func anyBelow(m []uint64, bit int) bool {
	for _, x := range m[:bit/64] {
		if x != 0 {
			return true
		}
	}
	return m[bit/64]<<(64-bit%64) != 0
}

// told is a float as it is answered: of what is no number there is one, whatever bits a reckoning leaves.
func told(x float64) float64 {
	if math.IsNaN(x) {
		return math.NaN()
	}
	return x
}

func finite(x float64) bool {
	return !math.IsNaN(x) && !math.IsInf(x, 0)
}
