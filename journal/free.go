package journal

import (
	"sync"

	"abacus/api"
	"abacus/lists"
)

// Free writes lists of entries to a new journal, a goroutine a list: its book, and that of its segments opened anew, where these hang on no order.
func Free(size int, l [][]api.Entry) ([]api.Kept, api.Errno) {
	if why := check(size, l); why != api.OK {
		return nil, why
	}
	j, _ := New(size)
	var all sync.WaitGroup
	for _, entries := range l {
		all.Add(1)
		go func() {
			defer all.Done()
			j.writeAll(entries)
		}()
	}
	all.Wait()
	return j.Book(), api.OK
}

// check tries the lists one behind another: if they can be written so, they can in whatever order, as numbers but grow.
func check(size int, l [][]api.Entry) api.Errno {
	j, why := New(size)
	switch {
	case why != api.OK:
		return why
	case lists.MoreThan(l, api.MaxFeed):
		return api.ErrMany
	case !areEntries(l):
		return api.ErrEntry
	case isMixed(l):
		return api.ErrMix
	}
	for _, entries := range l {
		if why := j.writeAll(entries); why != api.OK {
			return why
		}
	}
	return api.OK
}

func areEntries(l [][]api.Entry) bool {
	for _, entries := range l {
		for _, e := range entries {
			if !isEntry(e) {
				return false
			}
		}
	}
	return true
}

// isMixed tells whether the end of entries may hang on their order.
func isMixed(l [][]api.Entry) bool {
	kinds := map[string]api.EntryKind{}
	for _, entries := range l {
		for _, e := range entries {
			if e.Kind != api.EntryCount && e.Kind != api.EntrySee {
				return true
			}
			if kind, is := kinds[e.Name]; is && kind != e.Kind {
				return true
			}
			kinds[e.Name] = e.Kind
		}
	}
	return false
}
