package exact

import (
	"slices"
	"strconv"
	"strings"

	"abacus/api"
)

// digits are those of hexadecimal numbers.
const digits = "0123456789abcdef"

// What stands between the whole number and the count, where it was added.
const (
	upText        = "+inf "
	downText      = "-inf "
	noneText      = "nan "
	minusZeroText = "-0 "
)

// Text is the sum itself.
func (s *Sum) Text() string {
	if s == nil {
		return ""
	}
	text := s.n.text() + " "
	if s.up {
		text += upText
	}
	if s.down {
		text += downText
	}
	if s.none {
		text += noneText
	}
	if s.minusZero() {
		text += minusZeroText
	}
	return text + strconv.FormatUint(s.count, 10)
}

// Parse reads a sum's text.
func Parse(text string) (*Sum, api.Errno) {
	number, rest, _ := strings.Cut(text, " ")
	s := New()
	rest, s.up = strings.CutPrefix(rest, upText)
	rest, s.down = strings.CutPrefix(rest, downText)
	rest, s.none = strings.CutPrefix(rest, noneText)
	rest, minusZero := strings.CutPrefix(rest, minusZeroText)
	var isNumber, isCount bool
	s.n, isNumber = parseWhole(number)
	s.count, isCount = parseCount(rest)
	beside := len(s.n) > 0 || s.up || s.down || s.none
	switch {
	case !isNumber, !isCount,
		minusZero && (beside || s.count == 0),
		beside && s.count == 0:
		return nil, api.ErrSum
	}
	s.others = s.count != 0 && !minusZero
	return s, api.OK
}

func parseCount(text string) (uint64, bool) {
	n, err := strconv.ParseUint(text, 10, 64)
	return n, err == nil && strconv.FormatUint(n, 10) == text
}

// text is the number in hexadecimal digits.
func (w whole) text() string {
	var l []byte
	for _, x := range slices.Backward(w.amount()) {
		for shift := 60; shift >= 0; shift -= 4 {
			l = append(l, digits[x>>shift&15])
		}
	}
	text := strings.TrimLeft(string(l), "0")
	switch {
	case text == "":
		return "0"
	case w.sign() != 0:
		return "-" + text
	}
	return text
}

// parseWhole reads a number of hexadecimal digits.
func parseWhole(text string) (whole, bool) {
	text, below := strings.CutPrefix(text, "-")
	switch {
	case text == "", strings.Trim(text, digits) != "", text[0] == '0' && (len(text) > 1 || below):
		return nil, false
	}
	var w whole
	for len(text) > 0 {
		at := max(0, len(text)-16)
		x, _ := strconv.ParseUint(text[at:], 16, 64)
		w = append(w, x)
		text = text[:at]
	}
	w = append(w, 0) // the highest digit may have the bit that is the sign's
	if below {
		w.negate()
	}
	return w.trimmed(), true
}
