package store

import (
	"cmp"
	"slices"

	"abacus/api"
)

// series are the dots of a set.
type series struct {
	set   []api.Label
	count int       // how many dots were put, those that are kept as cells alone too
	old   []cell    // of the store's width: what dots ahead of the floor come to
	dots  []api.Dot // the others
	spent int       // how many dots that were trimmed may still stand in memory ahead of these
}

// isBehind tells whether a moment is above that of the last dot; one that was trimmed is ahead of the floor, and is not asked.
func (s *series) isBehind(at int64) bool {
	n := len(s.dots)
	return n == 0 || at > s.dots[n-1].At
}

func (s *series) put(d api.Dot) {
	s.count++
	s.dots = append(s.dots, d)
}

// trim keeps the dots ahead of a floor as cells alone. No window has dots on both sides of it.
func (s *series) trim(floor, width int64) {
	n := place(s.dots, dotAt, floor)
	if n == 0 {
		return
	}
	old := windows{width: width, cells: s.old}
	for _, d := range s.dots[:n] {
		old.put(d)
	}
	s.old = old.cells
	s.dots = s.dots[n:]
	s.spent += n
	if s.spent > len(s.dots) { // else who trims often would have most dots copied each time
		s.dots, s.spent = slices.Clone(s.dots), 0
	}
}

// between are the dots from one moment on, up to, but without, another.
func (s *series) between(from, to int64) []api.Dot {
	return s.dots[place(s.dots, dotAt, from):place(s.dots, dotAt, to)]
}

// rolls are the cells of a width, of which the moments from and to are multiples: from old ones and dots, as if all were dots.
func (s *series) rolls(from, to, width int64) []api.Roll {
	all := windows{width: width}
	for _, c := range s.old[place(s.old, cellFrom, from):place(s.old, cellFrom, to)] {
		all.join(c)
	}
	for _, d := range s.between(from, to) {
		all.put(d)
	}
	return all.rolls()
}

func dotAt(d api.Dot) int64 {
	return d.At
}

func cellFrom(c cell) int64 {
	return c.from
}

// place is how many items of a rising list stand ahead of a moment.
func place[T any](l []T, at func(T) int64, moment int64) int {
	n, _ := slices.BinarySearchFunc(l, moment, func(x T, moment int64) int {
		return cmp.Compare(at(x), moment)
	})
	return n
}
