// Package lists: what is asked of workers' lists, whatever stands in them.
package lists

import "abacus/api"

// TooMany tells whether there are more lists than workers may be, or more in all of them than steps may be.
func TooMany[T any](l [][]T) bool {
	if len(l) > api.MaxWorkers {
		return true
	}
	left := api.MaxSteps
	for _, list := range l {
		if len(list) > left {
			return true
		}
		left -= len(list)
	}
	return false
}
