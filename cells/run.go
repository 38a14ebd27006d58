package cells

import "abacus/api"

// worker is where a worker's program has come to.
type worker struct {
	regs  [api.MaxRegs]uint64
	place int
}

// step does the instruction i, at which the worker stands; the action that it asks of a cell, if it asks one, is done by do.
func (w *worker) step(i api.Ins, do func(api.Act) api.Did) {
	w.place++
	r := &w.regs
	switch i.Kind {
	case api.InsSet:
		r[i.A] = i.Value
	case api.InsSum:
		r[i.A] = r[i.B] + r[i.C]
	case api.InsLess:
		r[i.A] = flag(r[i.B] < r[i.C])
	case api.InsSame:
		r[i.A] = flag(r[i.B] == r[i.C])
	case api.InsJump:
		if r[i.A] != 0 {
			w.place = i.C
		}
	case api.InsLoad:
		r[i.A] = do(api.Act{Kind: api.ActLoad, Cell: i.Cell}).Saw
	case api.InsStore:
		do(api.Act{Kind: api.ActStore, Cell: i.Cell, New: r[i.A]})
	case api.InsAdd:
		r[i.B] = do(api.Act{Kind: api.ActAdd, Cell: i.Cell, New: r[i.A]}).Put
	case api.InsSwap:
		r[i.B] = do(api.Act{Kind: api.ActSwap, Cell: i.Cell, New: r[i.A]}).Saw
	case api.InsCas:
		r[i.C] = flag(do(api.Act{Kind: api.ActCas, Cell: i.Cell, Old: r[i.A], New: r[i.B]}).Ok)
	}
}

func flag(b bool) uint64 {
	if b {
		return 1
	}
	return 0
}

// Run does workers' programs by a schedule, an instruction a number.
func Run(start []uint64, l [][]api.Ins, schedule []int) (api.Final, api.Errno) {
	if why, _, _ := Check(len(start), l); why != api.OK {
		return api.Final{}, why
	}
	if len(schedule) > api.MaxSteps {
		return api.Final{}, api.ErrMany
	}
	c := from(start)
	workers := make([]worker, len(l))
	var trace []api.Event
	for _, n := range schedule {
		if !below(n, len(l)) || workers[n].place == len(l[n]) {
			continue
		}
		workers[n].step(l[n][workers[n].place], func(a api.Act) api.Did {
			did := c.act(a)
			trace = append(trace, api.Event{Worker: n, Did: did})
			return did
		})
	}
	return final(c, l, workers, trace), api.OK
}

func final(c *Cells, l [][]api.Ins, workers []worker, trace []api.Event) api.Final {
	f := api.Final{
		Cells: c.All(),
		Regs:  make([][api.MaxRegs]uint64, len(l)),
		Ended: make([]bool, len(l)),
		Trace: trace,
	}
	for n, w := range workers {
		f.Regs[n] = w.regs
		f.Ended[n] = w.place == len(l[n])
	}
	return f
}
