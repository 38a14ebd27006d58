package query

import (
	"strings"

	"abacus/braces"
)

// blanks may stand around each token.
const blanks = " \t\n"

// kind is what a token is; a sign, a comma and parentheses are of the kinds of their bytes.
type kind byte

const (
	endOfText     kind = iota
	noToken            // a byte with which none begins, or one that has no end
	wordToken          // letters, digits and _
	numberToken        // digits and points, with an exponent perhaps
	matchersToken      // { and all up to }
	spanToken          // [ and all up to ]
)

// lone are the tokens of one byte.
const lone = signs + "(),"

// tokenOf is the token that a text begins with: its kind, and how many bytes it has.
func tokenOf(s string) (kind, int) {
	if s == "" {
		return endOfText, 0
	}
	switch c := s[0]; {
	case isLetter(c):
		return wordToken, lengthOf(s, isLetter, isDigit)
	case isDigit(c), c == '.':
		return numberToken, numberLength(s)
	case c == '{':
		return closed(matchersToken, braces.End(s))
	case c == '[':
		return closed(spanToken, strings.IndexByte(s, ']')+1)
	case strings.IndexByte(lone, c) >= 0:
		return kind(c), 1
	}
	return noToken, 0
}

// closed is a token of so many bytes; no token, if it has no end.
func closed(k kind, n int) (kind, int) {
	if n == 0 {
		return noToken, 0
	}
	return k, n
}

// numberLength is how many bytes at a text's beginning are a number; what is no exponent is not of it.
func numberLength(s string) int {
	n := lengthOf(s, isDigit, isPoint)
	rest := s[n:]
	if rest == "" || rest[0] != 'e' && rest[0] != 'E' {
		return n
	}
	from := 1
	if len(rest) > 1 && (rest[1] == '+' || rest[1] == '-') {
		from = 2
	}
	digits := lengthOf(rest[from:], isDigit)
	if digits == 0 {
		return n
	}
	return n + from + digits
}

// lengthOf is how many bytes at a text's beginning are of one of the kinds.
func lengthOf(s string, kinds ...func(byte) bool) int {
	n := 0
	for n < len(s) && isOne(s[n], kinds) {
		n++
	}
	return n
}

func isOne(c byte, kinds []func(byte) bool) bool {
	for _, is := range kinds {
		if is(c) {
			return true
		}
	}
	return false
}

func isLetter(c byte) bool {
	return isSmall(c) || c >= 'A' && c <= 'Z' || c == '_'
}

func isSmall(c byte) bool {
	return c >= 'a' && c <= 'z'
}

func isDigit(c byte) bool {
	return c >= '0' && c <= '9'
}

func isPoint(c byte) bool {
	return c == '.'
}
