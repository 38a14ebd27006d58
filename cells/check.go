package cells

import "abacus/api"

// uses tells which fields an instruction has: the registers A, B, C, the Cell, the Value; and whether C is a place to jump to.
type uses struct {
	a, b, c, cell, value, jump bool
}

var used = [api.InsCount]uses{
	api.InsSet:   {a: true, value: true},
	api.InsSum:   {a: true, b: true, c: true},
	api.InsLess:  {a: true, b: true, c: true},
	api.InsSame:  {a: true, b: true, c: true},
	api.InsJump:  {a: true, jump: true},
	api.InsLoad:  {a: true, cell: true},
	api.InsStore: {a: true, cell: true},
	api.InsAdd:   {a: true, b: true, cell: true},
	api.InsSwap:  {a: true, b: true, cell: true},
	api.InsCas:   {a: true, b: true, c: true, cell: true},
}

// Check tells whether workers' programs may be, over so many cells: the worker and the instruction at fault.
func Check(cells int, l [][]api.Ins) (api.Errno, int, int) {
	if cells < 0 || cells > api.MaxCells {
		return api.ErrRange, 0, 0
	}
	if len(l) > api.MaxWorkers {
		return api.ErrMany, 0, 0
	}
	for worker, program := range l {
		if len(program) > api.MaxIns {
			return api.ErrMany, worker, api.MaxIns
		}
		for place, i := range program {
			if !rightIns(i, cells, len(program)) {
				return api.ErrProgram, worker, place
			}
		}
	}
	return api.OK, 0, 0
}

// rightIns tells whether an instruction of a program of that length is right over so many cells.
func rightIns(i api.Ins, cells, length int) bool {
	if i.Kind == api.InsNone || i.Kind >= api.InsCount {
		return false
	}
	u := used[i.Kind]
	most := choices(u.c, api.MaxRegs)
	if u.jump {
		most = length + 1 // behind the last instruction, too
	}
	return below(i.A, choices(u.a, api.MaxRegs)) &&
		below(i.B, choices(u.b, api.MaxRegs)) &&
		below(i.C, most) &&
		below(i.Cell, choices(u.cell, cells)) &&
		(u.value || i.Value == 0)
}

// choices is how many numbers, from 0 on, a field may have: 0 alone, if it is not used.
func choices(used bool, n int) int {
	if used {
		return n
	}
	return 1
}

func below(x, n int) bool {
	return x >= 0 && x < n
}
