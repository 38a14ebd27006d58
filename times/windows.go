package times

import "abacus/api"

func isLength(x int64) bool {
	return x >= 1 && x <= api.MaxAt
}

// Window is the number of the window of a length that a moment lies in.
func Window(at, length int64) (int64, api.Errno) {
	if !isMoment(at) || !isLength(length) {
		return 0, api.ErrRange
	}
	return at / length, api.OK
}

// Bounds are where a window begins, and where it has ended.
func Bounds(number, length int64) (int64, int64, api.Errno) {
	// Divided, not multiplied: the product might wrap round.
	if !isLength(length) || number < 0 || number > api.MaxAt/length {
		return 0, 0, api.ErrRange
	}
	first := number * length
	return first, first + length, api.OK
}

// Touched are the first and the last window that moments from one to another lie in.
func Touched(from, to, length int64) (int64, int64, api.Errno) {
	if from > to {
		return 0, 0, api.ErrRange
	}
	first, why := Window(from, length)
	if why != api.OK {
		return 0, 0, why
	}
	last, why := Window(to, length)
	if why != api.OK {
		return 0, 0, why
	}
	return first, last, api.OK
}
