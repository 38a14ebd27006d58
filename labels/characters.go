package labels

import (
	"iter"
	"strings"
	"unicode/utf8"
)

// noCharacter stands for a byte of a part that is no UTF-8: no code point is below 0.
const noCharacter = -1

// characters yields the characters of a text, each with its place.
func characters(s string) iter.Seq2[int, rune] {
	return func(yield func(int, rune) bool) {
		for i, c := range s {
			if c == utf8.RuneError && !strings.HasPrefix(s[i:], string(utf8.RuneError)) { // the code point of this number may stand there, too
				c = noCharacter
			}
			if !yield(i, c) {
				return
			}
		}
	}
}
