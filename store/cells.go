package store

import (
	"math"
	"strings"

	"abacus/api"
	"abacus/exact"
	"abacus/gauges"
	"abacus/times"
)

// cell is what the dots of a window come to.
type cell struct {
	from                         int64
	sum                          *exact.Sum // it counts them, too
	least, greatest, first, last float64
}

// reach takes in what stands behind: the least, the greatest, the last one of it.
func (c *cell) reach(least, greatest, last float64) {
	if gauges.Above(c.least, least) {
		c.least = least
	}
	if gauges.Above(greatest, c.greatest) {
		c.greatest = greatest
	}
	c.last = last
}

func (c *cell) roll() api.Roll {
	return api.Roll{From: c.from, Count: c.sum.Count(), Total: c.sum.Text(), Least: c.least, Greatest: c.greatest, First: c.first, Last: c.last}
}

// cellOf is the cell that a roll tells; false, if it may be none.
func cellOf(r api.Roll) (cell, bool) {
	if !isMoment(r.From) || r.Count < 1 || !hasOrder(r) {
		return cell{}, false
	}
	sum, why := exact.Parse(r.Total)
	if why != api.OK || sum.Count() != r.Count || strings.Contains(r.Total, "nan") { // its value may be no number by infinities alone
		return cell{}, false
	}
	return cell{from: r.From, sum: sum, least: r.Least, greatest: r.Greatest, first: r.First, last: r.Last}, true
}

// hasOrder tells whether a roll's floats are numbers, none of them below the least one, or above the greatest one.
func hasOrder(r api.Roll) bool {
	for _, x := range [...]float64{r.Least, r.Greatest, r.First, r.Last} {
		if math.IsNaN(x) || gauges.Above(r.Least, x) || gauges.Above(x, r.Greatest) {
			return false
		}
	}
	return true
}

// windows are cells of a width, rising, to which things come in the order of their moments.
type windows struct {
	width int64
	cells []cell
}

// at is the cell of the window that a moment lies in: the last one, or else a new one, that begins with a value.
func (w *windows) at(moment int64, first float64) *cell {
	number, _ := times.Window(moment, w.width)
	from, _, _ := times.Bounds(number, w.width)
	if n := len(w.cells); n == 0 || w.cells[n-1].from != from {
		w.cells = append(w.cells, cell{from: from, sum: exact.New(), least: first, greatest: first, first: first})
	}
	return &w.cells[len(w.cells)-1]
}

func (w *windows) put(d api.Dot) {
	c := w.at(d.At, d.V)
	c.sum.Add(d.V)
	c.reach(d.V, d.V, d.V)
}

// join takes in a cell, of which nothing is kept: its sum goes on to be another's.
func (w *windows) join(o cell) {
	c := w.at(o.from, o.first)
	c.sum.Merge(o.sum)
	c.reach(o.least, o.greatest, o.last)
}

func (w *windows) rolls() []api.Roll {
	var l []api.Roll
	for _, c := range w.cells {
		l = append(l, c.roll())
	}
	return l
}

// Coarse are cells joined, window by window of a width.
func Coarse(l []api.Roll, width int64) ([]api.Roll, api.Errno) {
	if !isWidth(width) {
		return nil, api.ErrRange
	}
	all := windows{width: width}
	for i, r := range l {
		c, is := cellOf(r)
		if !is || i > 0 && l[i-1].From >= r.From {
			return nil, api.ErrRoll
		}
		all.join(c)
	}
	return all.rolls(), api.OK
}

// Mean is the mean of a cell's dots.
func Mean(r api.Roll) (float64, api.Errno) {
	c, is := cellOf(r)
	if !is {
		return 0, api.ErrRoll
	}
	return c.sum.Mean(), api.OK
}
