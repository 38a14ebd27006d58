package journal

import (
	"math"
	"slices"
	"strings"

	"abacus/api"
	"abacus/gauges"
	"abacus/labels"
)

// book is metrics, rising by their names.
type book []api.Kept

// isBook tells whether metrics may be a book.
func isBook(l []api.Kept) bool {
	if len(l) > api.MaxMetrics {
		return false
	}
	for i, k := range l {
		if !isMetric(k) || i > 0 && l[i-1].Name >= k.Name {
			return false
		}
	}
	return true
}

// isMetric tells whether a metric of a book may be.
func isMetric(k api.Kept) bool {
	if !labels.Name(k.Name) || k.Kind != api.MetricGauge && !isUnused(k.X) {
		return false
	}
	n := numbers{k.N, k.Sum, k.Least, k.Greatest}
	switch k.Kind {
	case api.MetricCounter:
		return n.areOne(api.MaxHeld)
	case api.MetricGauge:
		return n == numbers{}
	case api.MetricHistogram:
		return n.areHeld()
	}
	return false
}

// copied is a book of new memory.
func copied(l []api.Kept) []api.Kept {
	all := slices.Clone(l)
	for i := range all {
		all[i].Name = strings.Clone(all[i].Name)
	}
	return all
}

// Do does an entry in a book.
func Do(l []api.Kept, e api.Entry) ([]api.Kept, api.Errno) {
	switch {
	case !isBook(l):
		return nil, api.ErrState
	case !isEntry(e):
		return nil, api.ErrEntry
	}
	b := book(copied(l))
	if why := b.do(e); why != api.OK {
		return nil, why
	}
	return b, api.OK
}

// do does a right entry, or nothing.
func (b *book) do(e api.Entry) api.Errno {
	i, is := slices.BinarySearchFunc(*b, e.Name, compareName)
	switch {
	case is && !serves((*b)[i], e):
		return api.ErrKind
	case e.Kind == api.EntryDrop:
		return b.drop(i, is)
	case !is && len(*b) == api.MaxMetrics:
		return api.ErrMany
	case !is:
		k, _ := grown(api.Kept{Name: strings.Clone(e.Name), Kind: kindOf(e)}, e)
		*b = slices.Insert(*b, i, k)
		return api.OK
	}
	k, why := grown((*b)[i], e)
	if why == api.OK {
		(*b)[i] = k
	}
	return why
}

func compareName(k api.Kept, name string) int {
	return strings.Compare(k.Name, name)
}

// serves tells whether an entry may speak of a metric that there is.
func serves(k api.Kept, e api.Entry) bool {
	switch e.Kind {
	case api.EntryDrop:
		return true
	case api.EntryHeld:
		return false // it speaks of a new one
	}
	return k.Kind == kindOf(e)
}

// kindOf is what a metric is of which an entry speaks.
func kindOf(e api.Entry) api.MetricKind {
	switch e.Kind {
	case api.EntryCount:
		return api.MetricCounter
	case api.EntrySet:
		return api.MetricGauge
	}
	return api.MetricHistogram
}

func (b *book) drop(i int, is bool) api.Errno {
	if !is {
		return api.ErrNone
	}
	*b = slices.Delete(*b, i, i+1)
	return api.OK
}

// grown is a metric, or a new one that has nothing yet, to which an entry was done.
func grown(k api.Kept, e api.Entry) (api.Kept, api.Errno) {
	switch e.Kind {
	case api.EntryCount:
		k.N += e.N
	case api.EntrySet:
		k.X = math.Float64frombits(gauges.Bits(e.X)) // as its record says
	case api.EntrySee:
		k = seen(k, e.N)
	case api.EntryHeld:
		k.N, k.Sum, k.Least, k.Greatest = e.N, e.Sum, e.Least, e.Greatest
	}
	if k.N > api.MaxHeld || k.Sum > api.MaxHeld {
		return api.Kept{}, api.ErrFull
	}
	return k, api.OK
}

// seen is a histogram that has one number more.
func seen(k api.Kept, n int64) api.Kept {
	if k.N == 0 {
		k.Least = n
	}
	k.N++
	k.Sum += n
	k.Least = min(k.Least, n)
	k.Greatest = max(k.Greatest, n)
	return k
}

// Entries are some that make a book.
func Entries(l []api.Kept) ([]api.Entry, api.Errno) {
	if !isBook(l) {
		return nil, api.ErrState
	}
	return entriesOf(l), api.OK
}

func entriesOf(l []api.Kept) []api.Entry {
	var all []api.Entry
	for _, k := range l {
		all = append(all, made(k))
	}
	return all
}

// made is the entry that makes a metric.
func made(k api.Kept) api.Entry {
	e := api.Entry{Name: strings.Clone(k.Name), N: k.N, Sum: k.Sum, Least: k.Least, Greatest: k.Greatest, X: k.X}
	switch k.Kind {
	case api.MetricCounter:
		e.Kind = api.EntryCount
	case api.MetricGauge:
		e.Kind = api.EntrySet
	case api.MetricHistogram:
		e.Kind = api.EntryHeld
	}
	return e
}
