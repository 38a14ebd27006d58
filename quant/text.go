package quant

import (
	"math"
	"strconv"
	"strings"

	"abacus/api"
)

// maxRow is the greatest G, and the greatest D, that a text may have.
const maxRow = 1 << 40

// Print writes a summary.
func (s *Summary) Print() string {
	if s == nil {
		return ""
	}
	text := strconv.AppendInt(nil, s.part, 10)
	text = append(text, ' ')
	text = strconv.AppendInt(text, s.count, 10)
	for _, row := range s.rows.ranked {
		text = append(text, ' ')
		text = strconv.AppendInt(text, row.Value, 10)
		text = append(text, ',')
		text = strconv.AppendInt(text, row.G, 10)
		text = append(text, ',')
		text = strconv.AppendInt(text, row.D, 10)
	}
	return string(text)
}

// Parse reads a summary.
func Parse(t string) (*Summary, api.Errno) {
	first, t, _ := strings.Cut(t, " ")
	second, t, more := strings.Cut(t, " ")
	part, partIs := number(first, 2, api.MaxPart)
	count, countIs := number(second, 0, maxCount)
	if !partIs || !countIs {
		return nil, api.ErrSummary
	}
	var l []api.Tuple
	for more {
		var word string
		word, t, more = strings.Cut(t, " ")
		row, is := parseRow(word)
		if !is {
			return nil, api.ErrSummary
		}
		l = append(l, row)
	}
	s := &Summary{part: part, count: count, rows: rowsOf(l)}
	if !s.holds(l) {
		return nil, api.ErrSummary
	}
	return s, api.OK
}

// parseRow reads a row of a text.
func parseRow(word string) (api.Tuple, bool) {
	first, rest, _ := strings.Cut(word, ",")
	second, third, _ := strings.Cut(rest, ",")
	value, valueIs := number(first, math.MinInt64, math.MaxInt64)
	g, gIs := number(second, 1, maxRow)
	d, dIs := number(third, 0, maxRow)
	return api.Tuple{Value: value, G: g, D: d}, valueIs && gIs && dIs
}

// number reads a whole number that is written as Print does, and lies within bounds.
func number(word string, least, most int64) (int64, bool) {
	n, err := strconv.ParseInt(word, 10, 64)
	return n, err == nil && least <= n && n <= most && strconv.FormatInt(n, 10) == word
}

// holds tells whether a summary of this part and count may have such rows.
func (s *Summary) holds(l []api.Tuple) bool {
	if len(l) == 0 {
		return s.count == 0
	}
	left := s.count
	for i, row := range l {
		switch {
		case i > 0 && row.Value < l[i-1].Value, row.G > left, row.G+row.D > s.room():
			return false
		}
		left -= row.G
	}
	return left == 0 && l[0].D == 0 && l[len(l)-1].D == 0
}
