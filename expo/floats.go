package expo

import (
	"errors"
	"strconv"
	"strings"
)

// longestFloat is how many bytes a float's text has at most.
const longestFloat = 64

// floatBytes are those of which a float's text may be: the library would take hexadecimal digits, too.
const floatBytes = "0123456789eEinfINFaAyYtT+-."

// Float writes a float.
func Float(x float64) string {
	return strconv.FormatFloat(x, 'g', -1, 64)
}

// ParseFloat reads a float; of an amount that is too great it is an infinity.
func ParseFloat(s string) (float64, bool) {
	if len(s) > longestFloat || strings.Trim(s, floatBytes) != "" {
		return 0, false
	}
	x, err := strconv.ParseFloat(s, 64)
	if err != nil && !errors.Is(err, strconv.ErrRange) {
		return 0, false
	}
	return x, true
}
