package quant

import (
	"math"

	"abacus/api"
)

// maxCount is how many values a summary is told at most.
const maxCount = 1 << 60

// Summary keeps some of the values that it is told, so that ranks are known up to a part of their count.
type Summary struct {
	part  int64
	count int64
	rows  rows
}

// New parts its count by part.
func New(part int) (*Summary, api.Errno) {
	if part < 2 || part > api.MaxPart {
		return nil, api.ErrRange
	}
	return &Summary{part: int64(part)}, api.OK
}

// Insert tells a value.
func (s *Summary) Insert(x int64) api.Errno {
	switch {
	case s == nil:
		return api.ErrNil
	case s.count == maxCount:
		return api.ErrMany
	}
	s.rows = s.rows.with(x)
	s.count++
	if s.count%(s.part/2) == 0 {
		s.rows = s.rows.joined(s.room())
	}
	return api.OK
}

// room is how many values may stand between two rows at most.
func (s *Summary) room() int64 {
	return max(1, 2*s.count/s.part)
}

// Count is how many values were told.
func (s *Summary) Count() int64 {
	if s == nil {
		return 0
	}
	return s.count
}

// Tuples are the rows that are kept.
func (s *Summary) Tuples() []api.Tuple {
	if s == nil {
		return nil
	}
	return s.rows.all()
}

// Query is a value whose rank is near a part num / den of the count.
func (s *Summary) Query(num, den int64) (int64, api.Errno) {
	switch {
	case s == nil:
		return 0, api.ErrNil
	case s.count == 0:
		return 0, api.ErrNone
	case !isPart(num, den):
		return 0, api.ErrRange
	}
	rank := partOf(num, den, s.count)
	var value int64
	nearest := int64(math.MaxInt64)
	for least, row := range s.rows.ranked {
		if far := max(rank-least, least+row.D-rank); far < nearest {
			value, nearest = row.Value, far
		}
	}
	return value, api.OK
}

// Within is the least and the greatest rank that a value may have.
func (s *Summary) Within(x int64) (int64, int64) {
	if s == nil {
		return 0, 0
	}
	var most int64 // the least rank of the last row that is at most x
	for least, row := range s.rows.ranked {
		if row.Value > x {
			return most, least + row.D - 1
		}
		most = least
	}
	return most, s.count
}
