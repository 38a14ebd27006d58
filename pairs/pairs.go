// Package pairs: two rising lists, gone through side by side.
package pairs

import (
	"cmp"
	"iter"
)

// Of yields what two lists have of each key, by rising keys; of a key that a list does not have, the zero value. In each list keys rise strictly.
func Of[A, B any](a []A, b []B, keyOfA func(A) string, keyOfB func(B) string) iter.Seq2[A, B] {
	return By(a, b, func(x A, y B) int { return cmp.Compare(keyOfA(x), keyOfB(y)) })
}

// By yields what two lists have side by side: items of which neither stands ahead of the other; beside an item that has no such one, the zero value. Each list rises strictly, by the order that is handed in.
func By[A, B any](a []A, b []B, compare func(A, B) int) iter.Seq2[A, B] {
	return func(yield func(A, B) bool) {
		i, k := 0, 0
		for i < len(a) || k < len(b) {
			var side int
			switch {
			case k == len(b):
				side = -1
			case i == len(a):
				side = 1
			default:
				side = compare(a[i], b[k])
			}
			var x A
			var y B
			if side <= 0 {
				x = a[i]
				i++
			}
			if side >= 0 {
				y = b[k]
				k++
			}
			if !yield(x, y) {
				return
			}
		}
	}
}
