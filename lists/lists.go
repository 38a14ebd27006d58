// Package lists: what is asked of workers' lists, whatever stands in them.
package lists

import "abacus/api"

// TooMany tells whether there are more lists than workers may be, or more in all of them than steps may be.
func TooMany[T any](l [][]T) bool {
	return MoreThan(l, api.MaxSteps)
}

// MoreThan tells whether there are more lists than workers may be, or more in all of them than so many.
func MoreThan[T any](l [][]T, most int) bool {
	if len(l) > api.MaxWorkers {
		return true
	}
	left := most
	for _, list := range l {
		if len(list) > left {
			return true
		}
		left -= len(list)
	}
	return false
}
