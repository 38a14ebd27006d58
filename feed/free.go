package feed

import (
	"slices"
	"sync"

	"abacus/api"
	"abacus/lists"
)

// Free has writers put lists and readers take all, on goroutines: what was taken, rising, and whether each writer's came in its order.
func Free(size int, l [][]uint64, readers int) ([]uint64, bool, api.Errno) {
	f, why := New(size)
	switch {
	case why != api.OK:
		return nil, false, why
	case lists.MoreThan(l, api.MaxFeed):
		return nil, false, api.ErrMany
	case readers < 1 || readers > api.MaxWorkers:
		return nil, false, api.ErrRange
	}
	c := newCrowd(f, l, readers)
	c.meet(l)
	return c.values(), c.inOrder(l), api.OK
}

// crowd is those who put to a feed, and those who take from it.
type crowd struct {
	feed     *Feed
	wasPut   chan struct{} // hears of each value that was put; closed, when all are
	wasTaken chan struct{} // hears of each value that was taken
	put      [][]uint64    // the places of each writer's values
	took     [][]api.Fed   // what each reader took
}

// newCrowd has channels with room for all that there is to be told, so that nobody waits to tell it.
func newCrowd(f *Feed, l [][]uint64, readers int) *crowd {
	all := 0
	for _, values := range l {
		all += len(values)
	}
	return &crowd{
		feed:     f,
		wasPut:   make(chan struct{}, all),
		wasTaken: make(chan struct{}, all),
		put:      make([][]uint64, len(l)),
		took:     make([][]api.Fed, readers),
	}
}

// meet has all put and take at one time; it answers when all was put and taken.
func (c *crowd) meet(l [][]uint64) {
	var writers, readers sync.WaitGroup
	for reader := range c.took {
		readers.Add(1)
		go func() {
			defer readers.Done()
			c.took[reader] = c.takeAll()
		}()
	}
	for writer, values := range l {
		writers.Add(1)
		go func() {
			defer writers.Done()
			c.put[writer] = c.putAll(values)
		}()
	}
	writers.Wait()
	close(c.wasPut)
	readers.Wait()
}

// putAll puts values, one behind another: their places. What finds no room is put again whenever something was taken.
func (c *crowd) putAll(values []uint64) []uint64 {
	var places []uint64
	for _, x := range values {
		place, why := c.feed.Put(x)
		for why != api.OK {
			<-c.wasTaken
			place, why = c.feed.Put(x)
		}
		places = append(places, place)
		c.wasPut <- struct{}{}
	}
	return places
}

// takeAll takes all that there is, whenever something was put. It does not hear of a value for each that it takes: one whose put was told may stand behind one that is still being put, and is taken when that was told, too.
func (c *crowd) takeAll() []api.Fed {
	var took []api.Fed
	for range c.wasPut {
		for fed, why := c.feed.Take(); why == api.OK; fed, why = c.feed.Take() {
			took = append(took, fed)
			c.wasTaken <- struct{}{}
		}
	}
	return took
}

// values are what was taken, rising.
func (c *crowd) values() []uint64 {
	var all []uint64
	for _, took := range c.took {
		for _, fed := range took {
			all = append(all, fed.X)
		}
	}
	slices.Sort(all)
	return all
}

// origin is where a value stands in the writers' lists.
type origin struct{ writer, number int }

// inOrder tells whether each reader took what each writer put in the order in which that was put.
func (c *crowd) inOrder(l [][]uint64) bool {
	origins := map[uint64]origin{}
	for writer, places := range c.put {
		for number, place := range places {
			origins[place] = origin{writer, number}
		}
	}
	for _, took := range c.took {
		next := make([]int, len(l)) // of each writer, the first one that may come
		for _, fed := range took {
			from, is := origins[fed.At]
			if !is || from.number < next[from.writer] || fed.X != l[from.writer][from.number] {
				return false
			}
			next[from.writer] = from.number + 1
		}
	}
	return true
}
