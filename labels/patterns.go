package labels

import (
	"unicode/utf8"

	"abacus/api"
)

// What a pattern asks for, beside a character: none of them is one that a text has.
const (
	anyText = noCharacter - 1 - iota
	anyOne
)

// Says tells whether a pattern says a text.
func Says(pattern, s string) bool {
	if len(pattern) > api.MaxValue || !utf8.ValidString(pattern) {
		return false
	}
	text := make([]rune, 0, len(s))
	for _, c := range characters(s) {
		text = append(text, c)
	}
	return say(asked(pattern), text)
}

// asked is what a pattern asks for, one behind the other.
func asked(pattern string) []rune {
	var l []rune
	escaped := false
	for _, c := range characters(pattern) {
		switch {
		case escaped:
			escaped = false
		case c == '\\':
			escaped = true
			continue
		case c == '*':
			c = anyText
		case c == '?':
			c = anyOne
		}
		l = append(l, c)
	}
	if escaped {
		l = append(l, '\\')
	}
	return l
}

// say tells whether what is asked for says a text. Each anyText says as little as it may; where this fails, the last one says one more: what stands ahead of it need not be tried again, for less text is left then.
func say(want, text []rune) bool {
	w, t := 0, 0
	star, from := -1, 0 // the last anyText, and the place behind what it says
	for t < len(text) {
		switch {
		case w < len(want) && want[w] == anyText:
			star, from = w, t
			w++
		case w < len(want) && (want[w] == anyOne || want[w] == text[t]):
			w++
			t++
		case star >= 0:
			from++
			w, t = star+1, from
		default:
			return false
		}
	}
	for w < len(want) && want[w] == anyText {
		w++
	}
	return w == len(want)
}
