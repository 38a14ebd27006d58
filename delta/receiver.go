package delta

import (
	"maps"
	"slices"
	"strings"

	"abacus/api"
)

// Receiver adds up pushes.
type Receiver struct {
	sources map[string]taken
}

// taken is what was taken of a source.
type taken struct {
	number uint64 // of the last push
	total  []api.Count
}

// NewReceiver took nothing.
func NewReceiver() *Receiver {
	return &Receiver{sources: map[string]taken{}}
}

// Take takes a push: the number of the last one of its source that was taken.
func (r *Receiver) Take(p api.Push) (uint64, api.Errno) {
	if r == nil {
		return 0, api.ErrNil
	}
	if !isRightPush(p) {
		return 0, api.ErrPush
	}
	had, is := r.sources[p.Source]
	switch {
	case !is && len(r.sources) == api.MaxSources:
		return 0, api.ErrMany
	case p.Number <= had.number:
		return had.number, api.ErrAgain
	case p.Number-had.number > 1:
		return had.number, api.ErrGap
	}
	total, why := Add(had.total, p.Changes)
	if why != api.OK {
		return had.number, why
	}
	r.sources[strings.Clone(p.Source)] = taken{number: p.Number, total: total}
	return p.Number, api.OK
}

func isRightPush(p api.Push) bool {
	return isKey(p.Source) && p.Number > 0 && RightChanges(p.Changes)
}

// Total is what a source's pushes have added up to, and the number of the last one.
func (r *Receiver) Total(source string) ([]api.Count, uint64, bool) {
	if r == nil {
		return nil, 0, false
	}
	had, is := r.sources[source]
	return copiedCounts(had.total), had.number, is
}

// All is what all sources' totals add up to.
func (r *Receiver) All() []api.Count {
	if r == nil {
		return nil
	}
	sums := map[string]uint64{}
	for _, had := range r.sources {
		for _, c := range had.total {
			sums[c.Key] += c.N
		}
	}
	var l []api.Count
	for _, key := range slices.Sorted(maps.Keys(sums)) {
		l = append(l, api.Count{Key: strings.Clone(key), N: sums[key]})
	}
	return l
}
