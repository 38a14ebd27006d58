// Package pairs: two lists by rising keys, gone through side by side.
package pairs

import (
	"cmp"
	"iter"
)

// Of yields what two lists have of each key, by rising keys; of a key that a list does not have, the zero value. In each list keys rise strictly.
func Of[A, B any](a []A, b []B, keyOfA func(A) string, keyOfB func(B) string) iter.Seq2[A, B] {
	return func(yield func(A, B) bool) {
		i, k := 0, 0
		for i < len(a) || k < len(b) {
			var side int
			switch {
			case k == len(b):
				side = -1
			case i == len(a):
				side = 1
			default:
				side = cmp.Compare(keyOfA(a[i]), keyOfB(b[k]))
			}
			var x A
			var y B
			if side <= 0 {
				x = a[i]
				i++
			}
			if side >= 0 {
				y = b[k]
				k++
			}
			if !yield(x, y) {
				return
			}
		}
	}
}
