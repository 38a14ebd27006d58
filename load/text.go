package load

import (
	"strconv"
	"strings"

	"abacus/api"
)

// Print writes a schedule.
func Print(l []int) (string, api.Errno) {
	for _, n := range l {
		if n < 0 || n >= api.MaxWorkers {
			return "", api.ErrRange
		}
	}
	if len(l) > api.MaxSteps {
		return "", api.ErrMany
	}
	var text strings.Builder
	for i, n := range l {
		if i > 0 {
			text.WriteByte(' ')
		}
		text.WriteString(strconv.Itoa(n))
	}
	return text.String(), api.OK
}

// Parse reads a schedule; the place of the fault, where there is one.
func Parse(s string) ([]int, api.Errno, int) {
	if s == "" {
		return nil, api.OK, 0
	}
	var l []int
	at := 0
	for {
		n, end := numberAt(s, at)
		switch {
		case end == at:
			return nil, api.ErrSchedule, at
		case len(l) == api.MaxSteps:
			return nil, api.ErrMany, at
		case n >= api.MaxWorkers:
			return nil, api.ErrRange, at
		}
		l = append(l, n)
		switch {
		case end == len(s):
			return l, api.OK, 0
		case s[end] != ' ':
			return nil, api.ErrSchedule, end
		}
		at = end + 1
	}
}

// numberAt is the number that begins at a place, and the place behind it; that is the same one, if there is none. A number that is too great is told as MaxWorkers.
func numberAt(s string, at int) (int, int) {
	if at < len(s) && s[at] == '0' {
		return 0, at + 1 // with another digit it would have a needless nought
	}
	n, end := 0, at
	for end < len(s) && s[end] >= '0' && s[end] <= '9' {
		n = min(10*n+int(s[end]-'0'), api.MaxWorkers)
		end++
	}
	return n, end
}
