package quant

import (
	"slices"
	"sort"

	"abacus/api"
)

// rows are those of a summary in order, in blocks, none of them empty: one more row moves those of its block alone, and of a great part there are many.
type rows [][]api.Tuple

// blockRows is how many rows are too many for a block.
const blockRows = 1024

// rowsOf are rows in blocks that have room for more.
func rowsOf(l []api.Tuple) rows {
	var r rows
	for block := range slices.Chunk(l, blockRows/2) {
		r = append(r, slices.Clone(block))
	}
	return r
}

// all are the rows as one list, of new memory.
func (r rows) all() []api.Tuple {
	return slices.Concat(r...)
}

// ranked yields each row with its least rank.
func (r rows) ranked(yield func(int64, api.Tuple) bool) {
	var least int64
	for _, block := range r {
		for _, row := range block {
			least += row.G
			if !yield(least, row) {
				return
			}
		}
	}
}

// with are the rows and one for a value, behind all that are at most it.
func (r rows) with(x int64) rows {
	if len(r) == 0 {
		return rowsOf([]api.Tuple{{Value: x, G: 1}})
	}
	b := sort.Search(len(r)-1, func(i int) bool { return r[i+1][0].Value > x })
	at := sort.Search(len(r[b]), func(i int) bool { return r[b][i].Value > x })
	row := api.Tuple{Value: x, G: 1}
	next, is := r.next(b, at)
	if is && (b > 0 || at > 0) {
		row.D = next.G + next.D - 1
	}
	r[b] = slices.Insert(r[b], at, row)
	if len(r[b]) < blockRows {
		return r
	}
	halves := rowsOf(r[b])
	return slices.Replace(r, b, b+1, halves...)
}

// next is the row at a place of a block, or the first one of the block behind, if the place is the block's end.
func (r rows) next(b, at int) (api.Tuple, bool) {
	switch {
	case at < len(r[b]):
		return r[b][at], true
	case b+1 < len(r):
		return r[b+1][0], true
	}
	return api.Tuple{}, false
}

// joined are the rows, each taken together with the one right behind it, where the room lets them: but for the first one.
func (r rows) joined(room int64) rows {
	l := r.all()
	if len(l) < 3 {
		return r
	}
	behind := len(l) - 1 // what is kept stands from here on
	for i := len(l) - 2; i > 0; i-- {
		if l[i].G+l[behind].G+l[behind].D <= room {
			l[behind].G += l[i].G
		} else {
			behind--
			l[behind] = l[i]
		}
	}
	behind--
	l[behind] = l[0]
	return rowsOf(l[behind:])
}
