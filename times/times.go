// Package times: moments, windows, rates: see ../../shared/DOC.md and doc/02-times.md.
package times

import (
	"strconv"
	"strings"

	"abacus/api"
)

// unit is a name, and how many nanoseconds it stands for.
type unit struct {
	name string
	size int64
}

// In a span's text they fall from part to part: as they do here.
var units = [...]unit{
	{"h", 3600000000000},
	{"m", 60000000000},
	{"s", 1000000000},
	{"ms", 1000000},
	{"us", 1000},
	{"ns", 1},
}

// isMoment tells whether x is a moment; spans are the same numbers.
func isMoment(x int64) bool {
	return x >= 0 && x <= api.MaxAt
}

// PrintSpan writes a span.
func PrintSpan(d int64) (string, api.Errno) {
	if !isMoment(d) {
		return "", api.ErrRange
	}
	if d == 0 {
		return "0s", api.OK
	}
	var text strings.Builder
	for _, u := range units {
		if n := d / u.size; n > 0 {
			text.WriteString(strconv.FormatInt(n, 10))
			text.WriteString(u.name)
		}
		d %= u.size
	}
	return text.String(), api.OK
}

// ParseSpan reads a span; beside an error it tells the place of the fault.
func ParseSpan(s string) (int64, api.Errno, int) {
	var total int64
	at, from := 0, 0
	for at == 0 || at < len(s) {
		n, behind := number(s, at, api.MaxAt)
		if behind == at || from == len(units) {
			return 0, api.ErrTime, at
		}
		which, end := unitAt(s, behind, from)
		if which == len(units) {
			return 0, api.ErrTime, end
		}
		part := product(n, units[which].size)
		if part[0] > 0 || part[1] > uint64(api.MaxAt-total) {
			return 0, api.ErrRange, at
		}
		total += int64(part[1])
		at, from = end, which+1
	}
	return total, api.OK, 0
}

// number reads decimal digits without needless noughts: what they say, or most + 1 if that is more than most, and the place behind them (at, if none stand there).
func number(s string, at int, most int64) (int64, int) {
	if at < len(s) && s[at] == '0' {
		return 0, at + 1
	}
	var n int64
	for at < len(s) && s[at] >= '0' && s[at] <= '9' {
		if digit := int64(s[at] - '0'); n > (most-digit)/10 {
			n = most + 1
		} else {
			n = n*10 + digit
		}
		at++
	}
	return n, at
}

// unitAt reads the longest name, of the units from a number on, that stands at a place: the unit's number, and the place behind it; or, if none stands there, how many units there are, and the first byte with which none goes on.
func unitAt(s string, at, from int) (int, int) {
	which, end, furthest := len(units), at, at
	for i := from; i < len(units); i++ {
		name := units[i].name
		same := at + common(s[at:], name)
		furthest = max(furthest, same)
		if same == at+len(name) && same > end {
			which, end = i, same
		}
	}
	if which == len(units) {
		end = furthest
	}
	return which, end
}

// common is how many bytes two texts have in common at their beginning.
func common(a, b string) int {
	n := 0
	for n < len(a) && n < len(b) && a[n] == b[n] {
		n++
	}
	return n
}
