package snap

import (
	"sync"

	"abacus/api"
	"abacus/lists"
)

// Free has goroutines put lists of values, each to a register of its own, while another one scans so many times: whether each clean scan came behind the one ahead of it, and what the registers have at the end.
func Free(l [][]uint32, scans int) (bool, []api.Reg, api.Errno) {
	g, why := New(len(l))
	switch {
	case why != api.OK || scans < 0 || scans > api.MaxSteps:
		return false, nil, api.ErrRange
	case lists.TooMany(l):
		return false, nil, api.ErrMany
	}
	rising := g.together(l, scans)
	return rising, g.All(), api.OK
}

// together puts the lists' values, a goroutine a list, while one more watches; it answers when all have ended.
func (g *Regs) together(l [][]uint32, scans int) bool {
	begin := make(chan struct{})
	var all sync.WaitGroup
	for reg, values := range l {
		all.Add(1)
		go func() {
			defer all.Done()
			<-begin
			for _, value := range values {
				g.Put(reg, value)
			}
		}()
	}
	var rising bool
	all.Add(1)
	go func() {
		defer all.Done()
		<-begin
		rising = g.watch(l, scans)
	}()
	close(begin) // now that all are there
	all.Wait()
	return rising
}

// watch scans so many times: whether each clean scan follows the clean one ahead of it.
func (g *Regs) watch(l [][]uint32, scans int) bool {
	last := make([]api.Reg, len(l))
	for range scans {
		regs, why := g.Scan(2)
		if why != api.OK {
			continue
		}
		if !follows(regs, last, l) {
			return false
		}
		last = regs
	}
	return true
}

// follows tells whether a clean scan may come behind another one: no number is less, and each value stands at its number in its list.
func follows(later, earlier []api.Reg, l [][]uint32) bool {
	for i, r := range later {
		if r.Number < earlier[i].Number || !wasPut(r, l[i]) {
			return false
		}
	}
	return true
}

// wasPut tells whether a register has the value that stands at its number in a list: at 1 the first one, at 0 none.
func wasPut(r api.Reg, values []uint32) bool {
	n := int(r.Number)
	if n == 0 {
		return r.Value == 0
	}
	return n <= len(values) && r.Value == values[n-1]
}
